import Derived.Test.YtldlejpacgphmaaGreatG43
import Derived.Test.YtldlejpacgphmaaGreatG27
import Derived.Test.YtldlejpacgphmaaGreatG44
import Derived.Test.YtldlejpacgphmaaGreatG45
namespace Go.Proofs.YtldlejpacgphmaaGreat
open Go.RowKit Go.Deep
set_option maxRecDepth 100000 in
set_option maxHeartbeats 8000000 in
theorem mirror_any {W : Nat → Prop} {w : World} {wb room nb fr bl K lasted : Nat} {H : List Int} {Us : List (List Pm)} (hWD : WD W w wb room nb fr bl K lasted H Us) (kd at_ keep fz again : Int) (pv : Value) :
  Calls Tryz.prog 42 #[.pointer (some ⟨wb, 0, none⟩), .agg #[.int .i64 kd, .int .i64 at_, pv, .int .u64 keep, .int .i64 fz, .int .i64 again]] w fun e w' => ∃ gp q, e = .returned (.slice (some ⟨gp, 0, none⟩) 1 1) ∧ RdP W w' (some ⟨gp, 0, none⟩) [q] ∧ q.data.length = 512 ∧ (q.ad = none → q.cap = 0) ∧ Below w.heap.size w w' := by
 obtain ⟨PO, hPO⟩ : ∃ PO : Ending → World → Prop, PO = fun e w' => ∃ gp q, e = .returned (.slice (some ⟨gp, 0, none⟩) 1 1) ∧ RdP W w' (some ⟨gp, 0, none⟩) [q] ∧ q.data.length = 512 ∧ (q.ad = none → q.cap = 0) ∧ Below w.heap.size w w' := ⟨_, rfl⟩
 rw [← hPO]
 obtain ⟨ab, hab⟩ : ∃ ab, ab = w.heap.size := ⟨_, rfl⟩
 obtain ⟨w1, hw1⟩ : ∃ w1, w1 = w.alloc (.cells #[.int .i64 kd, .int .i64 at_, pv, .int .u64 keep, .int .i64 fz, .int .i64 again] 33) := ⟨_, rfl⟩
 have b1 : Below w.heap.size w w1 := by rw [hw1]; exact (Below.refl _ _).alloc (Nat.le_refl _) _
 have z1 : w1.heap.size = w.heap.size + 1 := by rw [hw1]; simp
 have a1 : w1.cell? ⟨ab, 1, none⟩ = some (.int .i64 at_) := by rw [hw1, hab]; exact cell_new rfl 1 _ rfl
 have a4 : w1.cell? ⟨ab, 4, none⟩ = some (.int .i64 fz) := by rw [hw1, hab]; exact cell_new rfl 4 _ rfl
 have hWlt : ∀ k, W k → k < w.heap.size := fun k q => by
  obtain ⟨Z0, p0, c0, j0, g0, tr0, tl0, td0, hb0, hc0, ta0, tc0, vs0, Ls0, n0, cs0, d0, s0, h0, _, hW0⟩ := hWD
  rw [hW0] at q
  exact h0.mu_lt q
 obtain ⟨Z, p, c, j, g, tried, tl, td, hb, hc, ta, tc, vs, Ls, n1, cs, d, s, h, hOn, hW⟩ := hWD.below b1
 have hnb9 := h.nb
 have hpl := hOn.puts h.lo h.fit h.nb
 have hlo9 := h.lo
 have hfit9 := h.fit
 have HKeep : Hid (∀ w', Below w1.heap.size w1 w' → w'.cell? ⟨wb, 0, none⟩ = some (.pointer (some ⟨p, 0, none⟩)) ∧ w'.cell? ⟨wb, 3, none⟩ = some (.pointer (some ⟨g, 0, none⟩)) ∧ w'.cell? ⟨g, 1, none⟩ = some (.int .i64 (fr : Int)) ∧ w'.cell? ⟨g, 2, none⟩ = some (.int .i64 (bl : Int)) ∧ w'.cell? ⟨ab, 4, none⟩ = some (.int .i64 fz) ∧ w'.cell? ⟨ab, 1, none⟩ = some (.int .i64 at_)) := fun w' hb' => by
  have h' := h.below hb'
  have hal : ab < w1.heap.size := by omega
  exact ⟨h'.wd.cell 0, h'.wd.cell 3, h'.lg.lg.c1, h'.lg.lg.c2, (hb'.cell (p := ⟨ab, 4, none⟩) hal).trans a4, (hb'.cell (p := ⟨ab, 1, none⟩) hal).trans a1⟩
 obtain ⟨k0, k3, g1, g2, _, _⟩ := HKeep.out w1 (Below.refl _ _)
 have HLow := hid low_any
 have HRd : Hid (∀ x, x < nb → Calls Tryz.prog 67 #[.pointer (some ⟨p, 0, none⟩), .int .i64 (x : Int)] w1.drew fun e w2 => ∃ gm cpm, e = .returned (.tuple #[.slice (some ⟨gm, 0, none⟩) 512 cpm, .int .i64 0]) ∧ Below w1.heap.size w1 w2 ∧ w1.heap.size ≤ gm ∧ ∃ zs, zs.length = 512 ∧ Pl.isB zs ∧ Own w2 gm 512 cpm zs) := fun x hx => by
  refine Calls.mono (Cq.dread h.jq.toCq.drew (by omega) hOn.on x hx) ?_
  rintro e w2 ⟨gm, cpm, rfl, q1, q2, q3⟩
  obtain ⟨q4, q5⟩ := Pd.read_len h.jq.toCq x hx
  exact ⟨gm, cpm, rfl, (Below.refl w1.heap.size w1).drew.trans q3, q1, d.read x, q4, q5, q2⟩
 have HDkA : Hid (∀ w', Below w1.heap.size w1 w' → Calls Tryz.prog 14 #[.pointer (some ⟨g, 0, none⟩)] w'.drew fun e w'' => e = .returned (.int .i64 (nb : Int)) ∧ w'' = w'.drew) := fun w' hb' => refDisk_any (h.below hb'.drew).lg.lg h.nb
 have n1nb := h.jq.fits.2.1
 have HF : Hid (∀ (w2 : World) (gm cpm r2 : Nat) (zs : List Int), Below w1.heap.size w1 w2 → w1.heap.size ≤ gm → zs.length = 512 → Pl.isB zs → Own w2 gm 512 cpm zs → PO (.returned (.slice (some ⟨w2.heap.size, 0, none⟩) 1 1)) (w2.drew.alloc (.cells #[.int .i64 (r2 : Int), .slice (some ⟨gm, 0, none⟩) 512 cpm] 68))) := fun w2 gm cpm r2 zs q1 q2 q3 q4 q5 => by
  rw [hPO]
  have hs := q1.size
  have bA : Below w2.heap.size w2 (w2.drew.alloc (.cells #[.int .i64 (r2 : Int), .slice (some ⟨gm, 0, none⟩) 512 cpm] 68)) := (Below.refl w2.heap.size w2).drew.alloc (Nat.le_refl _) _
  refine ⟨w2.heap.size, ⟨(r2 : Int), some ⟨gm, 0, none⟩, cpm, zs⟩, rfl, ⟨fun q hq => ?_, .inr ⟨w2.heap.size, 0, rfl, by simp, fun q => by have := hWlt _ q; omega, fun t q hq => ?_⟩⟩, q3, (fun e => by cases e), b1.trans ((q1.trans (bA.mono hs)).mono b1.size)⟩
  ·simp only [List.mem_singleton] at hq
   subst hq
   have := (q5.keep (bA.block gm q5.lt)).rdn (X := W) q4 (fun q => by have := hWlt _ q; omega)
   simp only
   rw [q3]
   exact this
  ·rcases t with _ | t
   ·simp only [List.getElem?_cons_zero, Option.some.injEq] at hq
    subst hq
    simp only
    rw [q3]
    exact ⟨cell_new rfl 0 _ rfl, cell_new rfl 1 _ rfl⟩
   ·simp at hq
 have HN := hid (num_any 0)
 have HW1 := hid hw1
 have HAB := hid hab
 obtain ⟨v24, hv24⟩ : ∃ v24, IntKind.i64.wrap (fz + at_) = v24 := ⟨_, rfl⟩
 have hb0 : ¬ ((bl : Int) = 0) := by omega
 have hb1 : ¬ (bl = 0) := by omega
 have hb2 : ((bl : Int) == 0) = false := by simpa using hb0
 have hn0 : ¬ ((nb : Int) = 0) := by omega
 have hn1 : ¬ (nb = 0) := by omega
 have hn2 : ((nb : Int) == 0) = false := by simpa using hn0
 clear hWD h hOn hW hPO hw1 b1 hpl z1 hab hWlt
 go_enter Tryz.func42, Tryz.ntmps42
 go_wp2_with fail
 rw [← HW1.out, ← HAB.out]
 refine wp_region_noPanic ?_
 refine wp_region_held_drew (S := fun w' => w'.cell? ⟨wb, 0, none⟩ = some (.pointer (some ⟨p, 0, none⟩)) ∧ w'.cell? ⟨wb, 3, none⟩ = some (.pointer (some ⟨g, 0, none⟩)) ∧ w'.cell? ⟨g, 1, none⟩ = some (.int .i64 (fr : Int)) ∧ w'.cell? ⟨g, 2, none⟩ = some (.int .i64 (bl : Int)) ∧ w'.cell? ⟨ab, 4, none⟩ = some (.int .i64 fz) ∧ w'.cell? ⟨ab, 1, none⟩ = some (.int .i64 at_)) (by kernel_rfl) ⟨k0, k3, g1, g2, a4, a1⟩ (fun hSS => ?_)
 apply tk 0 (some 9) (.move (.tmp 0)) 27 none rfl (by kernel_rfl) (fun _ _ _ h => h) (by rfl) hSS
 ·(intro w9 hSw; (try dsimp only at hSw); (try go_split_ands); first | (go_simp; done) | (go_simp; with_reducible rfl))
 apply tk 1 (some 10) (.nilCheck (.tmp 9)) 0 none rfl (by kernel_rfl) (fun _ _ _ h => h) (by rfl) hSS
 ·(intro w9 hSw; (try dsimp only at hSw); (try go_split_ands); first | (go_simp; done) | (go_simp; with_reducible rfl))
 apply tk 2 (some 11) (.fieldAddr 45 (.tmp 10) 0) 0 none rfl (by kernel_rfl) (fun _ _ _ h => h) (by rfl) hSS
 ·(intro w9 hSw; (try dsimp only at hSw); (try go_split_ands); first | (go_simp; done) | (go_simp; with_reducible rfl))
 apply tk 3 (some 12) (.load 37 (.tmp 11)) 37 none rfl (by kernel_rfl) (fun _ _ _ h => h) (by rfl) hSS
 ·(intro w9 hSw; (try dsimp only at hSw); (try go_split_ands); first | (go_simp; done) | (go_simp; with_reducible rfl))
 try simp only [Act.put, List.setIfInBounds_toArray, List.set_cons_zero, List.set_cons_succ]
 apply tk 4 (some 13) (.move (.tmp 0)) 27 none rfl (by kernel_rfl) (fun _ _ _ h => h) (by rfl) hSS
 ·(intro w9 hSw; (try dsimp only at hSw); (try go_split_ands); first | (go_simp; done) | (go_simp; with_reducible rfl))
 apply tk 5 (some 14) (.nilCheck (.tmp 13)) 0 none rfl (by kernel_rfl) (fun _ _ _ h => h) (by rfl) hSS
 ·(intro w9 hSw; (try dsimp only at hSw); (try go_split_ands); first | (go_simp; done) | (go_simp; with_reducible rfl))
 apply tk 6 (some 15) (.fieldAddr 45 (.tmp 14) 3) 0 none rfl (by kernel_rfl) (fun _ _ _ h => h) (by rfl) hSS
 ·(intro w9 hSw; (try dsimp only at hSw); (try go_split_ands); first | (go_simp; done) | (go_simp; with_reducible rfl))
 apply tk 7 (some 16) (.load 40 (.tmp 15)) 40 none rfl (by kernel_rfl) (fun _ _ _ h => h) (by rfl) hSS
 ·(intro w9 hSw; (try dsimp only at hSw); (try go_split_ands); first | (go_simp; done) | (go_simp; with_reducible rfl))
 try simp only [Act.put, List.setIfInBounds_toArray, List.set_cons_zero, List.set_cons_succ]
 apply tk 8 (some 17) (.nilCheck (.tmp 16)) 0 none rfl (by kernel_rfl) (fun _ _ _ h => h) (by rfl) hSS
 ·(intro w9 hSw; (try dsimp only at hSw); (try go_split_ands); first | (go_simp; done) | (go_simp; with_reducible rfl))
 apply tk 9 (some 18) (.fieldAddr 48 (.tmp 17) 1) 0 none rfl (by kernel_rfl) (fun _ _ _ h => h) (by rfl) hSS
 ·(intro w9 hSw; (try dsimp only at hSw); (try go_split_ands); first | (go_simp; done) | (go_simp; with_reducible rfl))
 apply tk 10 (some 19) (.load 3 (.tmp 18)) 3 none rfl (by kernel_rfl) (fun _ _ _ h => h) (by rfl) hSS
 ·(intro w9 hSw; (try dsimp only at hSw); (try go_split_ands); first | (go_simp; done) | (go_simp; with_reducible rfl))
 apply tk 11 (some 20) (.fieldAddr 33 (.tmp 3) 4) 0 none rfl (by kernel_rfl) (fun _ _ _ h => h) (by rfl) hSS
 ·(intro w9 hSw; (try dsimp only at hSw); (try go_split_ands); first | (go_simp; done) | (go_simp; with_reducible rfl))
 try simp only [Act.put, List.setIfInBounds_toArray, List.set_cons_zero, List.set_cons_succ]
 apply tk 12 (some 21) (.load 3 (.tmp 20)) 3 none rfl (by kernel_rfl) (fun _ _ _ h => h) (by rfl) hSS
 ·(intro w9 hSw; (try dsimp only at hSw); (try go_split_ands); first | (go_simp; done) | (go_simp; with_reducible rfl))
 apply tk 13 (some 22) (.fieldAddr 33 (.tmp 3) 1) 0 none rfl (by kernel_rfl) (fun _ _ _ h => h) (by rfl) hSS
 ·(intro w9 hSw; (try dsimp only at hSw); (try go_split_ands); first | (go_simp; done) | (go_simp; with_reducible rfl))
 apply tk 14 (some 23) (.load 3 (.tmp 22)) 3 none rfl (by kernel_rfl) (fun _ _ _ h => h) (by rfl) hSS
 ·(intro w9 hSw; (try dsimp only at hSw); (try go_split_ands); first | (go_simp; done) | (go_simp; with_reducible rfl))
 apply tk 15 (some 24) (.binOp .add 3 (.tmp 21) (.tmp 23) 3) 3 none rfl (by kernel_rfl) (fun _ _ _ h => h) (by rfl) hSS
 ·(intro w9 hSw; (try dsimp only at hSw); (try go_split_ands); first | (go_simp; done) | (go_simp; with_reducible rfl))
 try simp only [Act.put, List.setIfInBounds_toArray, List.set_cons_zero, List.set_cons_succ]
 apply tk 17 (some 26) (.move (.tmp 0)) 27 none rfl (by kernel_rfl) (fun _ _ _ h => h) (by rfl) hSS
 ·(intro w9 hSw; (try dsimp only at hSw); (try go_split_ands); first | (go_simp; done) | (go_simp; with_reducible rfl))
 apply tk 18 (some 27) (.nilCheck (.tmp 26)) 0 none rfl (by kernel_rfl) (fun _ _ _ h => h) (by rfl) hSS
 ·(intro w9 hSw; (try dsimp only at hSw); (try go_split_ands); first | (go_simp; done) | (go_simp; with_reducible rfl))
 apply tk 19 (some 28) (.fieldAddr 45 (.tmp 27) 3) 0 none rfl (by kernel_rfl) (fun _ _ _ h => h) (by rfl) hSS
 ·(intro w9 hSw; (try dsimp only at hSw); (try go_split_ands); first | (go_simp; done) | (go_simp; with_reducible rfl))
 apply tk 20 (some 29) (.load 40 (.tmp 28)) 40 none rfl (by kernel_rfl) (fun _ _ _ h => h) (by rfl) hSS
 ·(intro w9 hSw; (try dsimp only at hSw); (try go_split_ands); first | (go_simp; done) | (go_simp; with_reducible rfl))
 try simp only [Act.put, List.setIfInBounds_toArray, List.set_cons_zero, List.set_cons_succ]
 apply tk 21 (some 30) (.nilCheck (.tmp 29)) 0 none rfl (by kernel_rfl) (fun _ _ _ h => h) (by rfl) hSS
 ·(intro w9 hSw; (try dsimp only at hSw); (try go_split_ands); first | (go_simp; done) | (go_simp; with_reducible rfl))
 apply tk 22 (some 31) (.fieldAddr 48 (.tmp 30) 2) 0 none rfl (by kernel_rfl) (fun _ _ _ h => h) (by rfl) hSS
 ·(intro w9 hSw; (try dsimp only at hSw); (try go_split_ands); first | (go_simp; done) | (go_simp; with_reducible rfl))
 apply tk 23 (some 32) (.load 3 (.tmp 31)) 3 none rfl (by kernel_rfl) (fun _ _ _ h => h) (by rfl) hSS
 ·(intro w9 hSw; (try dsimp only at hSw); (try go_split_ands); first | (go_simp; done) | (go_simp; with_reducible rfl))
 try simp only [Act.put, List.setIfInBounds_toArray, List.set_cons_zero, List.set_cons_succ]
 refine wpAnyH_ready (rs := [16]) (by kernel_rfl) (by simp) (AllReadyH.cons (o := ({ dst := some 25, op := Op.call { callee := Callee.value (Operand.func 23), args := #[Operand.tmp 24], argTypes := #[3] }, type := 3, pos := _, after := _, guard := none } : Oper)) rfl (fun K9 hK9 => ?_) AllReadyH.nil)
 go_simp
 go_at_call 23
 refine Calls.mono (HLow.out v24 w1.drew) ?_
 rintro e w9 ⟨y, rfl, hy, hw9, hye⟩
 clear hye
 rw [hw9]
 clear hw9
 obtain ⟨r, hr⟩ : ∃ r : Nat, r = y % bl := ⟨_, rfl⟩
 have hrl : r < bl := by rw [hr]; exact Nat.mod_lt _ (by omega)
 have u1 : (y : Int).tmod (bl : Int) = (r : Int) := by rw [Int.tmod_eq_emod_of_nonneg (by omega), hr]; exact (Int.natCast_emod y bl).symm
 have u2 : (y : Int) % (bl : Int) = (r : Int) := by rw [hr]; exact (Int.natCast_emod y bl).symm
 have u3 : IntKind.i64.wrap (r : Int) = (r : Int) := by rw [IntKind.wrap_i64]; omega
 obtain ⟨x, hx⟩ : ∃ x : Nat, x = fr + r := ⟨_, rfl⟩
 have u4 : (fr : Int) + (r : Int) = (x : Int) := by omega
 have u5 : IntKind.i64.wrap (x : Int) = (x : Int) := by rw [IntKind.wrap_i64]; omega
 have HRx := hid (HRd.out x (by omega))
 clear hr hx hrl HRd hy
 refine hK9.out _ _ ⟨k0, k3, g1, g2, a4, a1⟩ (fun hSS => ?_)
 clear hK9 K9
 try simp only [Act.put, List.setIfInBounds_toArray, List.set_cons_zero, List.set_cons_succ]
 apply tk 24 (some 33) (.binOp .rem 3 (.tmp 25) (.tmp 32) 3) 3 none rfl (by kernel_rfl) (fun _ _ _ h => h) (by rfl) hSS
 ·(intro w9 hSw; (try dsimp only at hSw); (try go_split_ands); first | (go_simp; done) | (go_simp; with_reducible rfl))
 apply tk 25 (some 34) (.binOp .add 3 (.tmp 19) (.tmp 33) 3) 3 none rfl (by kernel_rfl) (fun _ _ _ h => h) (by rfl) hSS
 ·(intro w9 hSw; (try dsimp only at hSw); (try go_split_ands); first | (go_simp; done) | (go_simp; with_reducible rfl))
 try simp only [Act.put, List.setIfInBounds_toArray, List.set_cons_zero, List.set_cons_succ]
 refine wpAnyH_ready (rs := [26]) (by kernel_rfl) (by simp) (AllReadyH.cons (o := ({ dst := some 35, op := Op.call { callee := Callee.value (Operand.func 67), args := #[Operand.tmp 12, Operand.tmp 34], argTypes := #[37, 3] }, type := 72, pos := _, after := _, guard := none } : Oper)) rfl (fun K9 hK9 => ?_) AllReadyH.nil)
 go_simp
 go_at_call 67
 refine Calls.mono HRx.out ?_
 rintro e w2 ⟨gm, cpm, rfl, F2⟩
 have H2 := hid F2
 obtain ⟨l0, l3, lg1, lg2, la4, la1⟩ := HKeep.out w2 F2.1
 clear F2 HRx
 refine hK9.out _ _ ⟨l0, l3, lg1, lg2, la4, la1⟩ (fun hSS => ?_)
 clear hK9 K9
 try simp only [Act.put, List.setIfInBounds_toArray, List.set_cons_zero, List.set_cons_succ]
 apply tk 27 (some 8) (.move (.tmp 35)) 72 none rfl (by kernel_rfl) (fun _ _ _ h => h) (by rfl) hSS
 ·(intro w9 hSw; (try dsimp only at hSw); (try go_split_ands); first | (go_simp; done) | (go_simp; with_reducible rfl))
 try simp only [Act.put, List.setIfInBounds_toArray, List.set_cons_zero, List.set_cons_succ]
 apply tk 28 (some 36) (.extract (.tmp 8) 0) 22 none rfl (by kernel_rfl) (fun _ _ _ h => h) (by rfl) hSS
 ·(intro w9 hSw; (try dsimp only at hSw); (try go_split_ands); first | (go_simp; done) | (go_simp; with_reducible rfl))
 apply tk 29 (some 37) (.extract (.tmp 8) 1) 55 none rfl (by kernel_rfl) (fun _ _ _ h => h) (by rfl) hSS
 ·(intro w9 hSw; (try dsimp only at hSw); (try go_split_ands); first | (go_simp; done) | (go_simp; with_reducible rfl))
 apply tk 30 (some 5) (.assign (.tmp 36)) 22 none rfl (by kernel_rfl) (fun _ _ _ h => h) (by rfl) hSS
 ·(intro w9 hSw; (try dsimp only at hSw); (try go_split_ands); first | (go_simp; done) | (go_simp; with_reducible rfl))
 apply tk 31 (some 6) (.assign (.tmp 37)) 55 none rfl (by kernel_rfl) (fun _ _ _ h => h) (by rfl) hSS
 ·(intro w9 hSw; (try dsimp only at hSw); (try go_split_ands); first | (go_simp; done) | (go_simp; with_reducible rfl))
 try simp only [Act.put, List.setIfInBounds_toArray, List.set_cons_zero, List.set_cons_succ]
 refine wpAnyH_done (by kernel_rfl) (NoPanic.normal ?_) _
 clear hSS k0 k3 g1 g2 a4 a1
 go_wp2_with fail
 refine Calls.mono (HN.out w2) ?_
 rintro e w9 ⟨rfl, hw9⟩
 rw [hw9]
 clear hw9
 have HDk := hid (HDkA.out w2 H2.out.1)
 clear HDkA
 go_wp2_with fail
 refine wp_region_noPanic ?_
 refine wp_region_held_drew (S := fun w' => w'.cell? ⟨wb, 3, none⟩ = some (.pointer (some ⟨g, 0, none⟩)) ∧ w'.cell? ⟨ab, 1, none⟩ = some (.int .i64 at_)) (by kernel_rfl) ⟨l3, la1⟩ (fun hSS => ?_)
 apply tk 0 (some 42) (.fieldAddr 33 (.tmp 3) 1) 0 none rfl (by kernel_rfl) (fun _ _ _ h => h) (by rfl) hSS
 ·(intro w9 hSw; (try dsimp only at hSw); (try go_split_ands); first | (go_simp; done) | (go_simp; with_reducible rfl))
 try simp only [Act.put, List.setIfInBounds_toArray, List.set_cons_zero, List.set_cons_succ]
 apply tk 1 (some 43) (.load 3 (.tmp 42)) 3 none rfl (by kernel_rfl) (fun _ _ _ h => h) (by rfl) hSS
 ·(intro w9 hSw; (try dsimp only at hSw); (try go_split_ands); first | (go_simp; done) | (go_simp; with_reducible rfl))
 apply tk 3 (some 45) (.move (.tmp 0)) 27 none rfl (by kernel_rfl) (fun _ _ _ h => h) (by rfl) hSS
 ·(intro w9 hSw; (try dsimp only at hSw); (try go_split_ands); first | (go_simp; done) | (go_simp; with_reducible rfl))
 apply tk 4 (some 46) (.nilCheck (.tmp 45)) 0 none rfl (by kernel_rfl) (fun _ _ _ h => h) (by rfl) hSS
 ·(intro w9 hSw; (try dsimp only at hSw); (try go_split_ands); first | (go_simp; done) | (go_simp; with_reducible rfl))
 apply tk 5 (some 47) (.fieldAddr 45 (.tmp 46) 3) 0 none rfl (by kernel_rfl) (fun _ _ _ h => h) (by rfl) hSS
 ·(intro w9 hSw; (try dsimp only at hSw); (try go_split_ands); first | (go_simp; done) | (go_simp; with_reducible rfl))
 try simp only [Act.put, List.setIfInBounds_toArray, List.set_cons_zero, List.set_cons_succ]
 apply tk 6 (some 48) (.load 40 (.tmp 47)) 40 none rfl (by kernel_rfl) (fun _ _ _ h => h) (by rfl) hSS
 ·(intro w9 hSw; (try dsimp only at hSw); (try go_split_ands); first | (go_simp; done) | (go_simp; with_reducible rfl))
 try simp only [Act.put, List.setIfInBounds_toArray, List.set_cons_zero, List.set_cons_succ]
 refine wpAnyH_ready (rs := [2]) (by kernel_rfl) (by simp) (AllReadyH.cons (o := ({ dst := some 44, op := Op.call { callee := Callee.value (Operand.func 23), args := #[Operand.tmp 43], argTypes := #[3] }, type := 3, pos := _, after := _, guard := none } : Oper)) rfl (fun K9 hK9 => ?_) AllReadyH.nil)
 go_simp
 go_at_call 23
 refine Calls.mono (HLow.out at_ w2.drew) ?_
 rintro e w9 ⟨y2, rfl, hy2, hw9, hye⟩
 clear hye
 rw [hw9]
 clear hw9
 obtain ⟨r2, hr2⟩ : ∃ r2 : Nat, r2 = y2 % nb := ⟨_, rfl⟩
 have hrl2 : r2 < nb := by rw [hr2]; exact Nat.mod_lt _ (by omega)
 have v1 : (y2 : Int).tmod (nb : Int) = (r2 : Int) := by rw [Int.tmod_eq_emod_of_nonneg (by omega), hr2]; exact (Int.natCast_emod y2 nb).symm
 have v2 : (y2 : Int) % (nb : Int) = (r2 : Int) := by rw [hr2]; exact (Int.natCast_emod y2 nb).symm
 have v3 : IntKind.i64.wrap (r2 : Int) = (r2 : Int) := by rw [IntKind.wrap_i64]; omega
 clear hr2 hy2
 refine hK9.out _ _ ⟨l3, la1⟩ (fun hSS => ?_)
 clear hK9 K9
 try simp only [Act.put, List.setIfInBounds_toArray, List.set_cons_zero, List.set_cons_succ]
 refine wpAnyH_ready (rs := [7]) (by kernel_rfl) (by simp) (AllReadyH.cons (o := ({ dst := some 49, op := Op.call { callee := Callee.value (Operand.func 14), args := #[Operand.tmp 48], argTypes := #[40] }, type := 3, pos := _, after := _, guard := none } : Oper)) rfl (fun K9 hK9 => ?_) AllReadyH.nil)
 go_simp
 go_at_call 14
 refine Calls.mono HDk.out ?_
 rintro e w9 ⟨rfl, hw9⟩
 rw [hw9]
 clear hw9 HDk
 refine hK9.out _ _ ⟨l3, la1⟩ (fun hSS => ?_)
 clear hK9 K9
 try simp only [Act.put, List.setIfInBounds_toArray, List.set_cons_zero, List.set_cons_succ]
 apply tk 8 (some 50) (.binOp .rem 3 (.tmp 44) (.tmp 49) 3) 3 none rfl (by kernel_rfl) (fun _ _ _ h => h) (by rfl) hSS
 ·(intro w9 hSw; (try dsimp only at hSw); (try go_split_ands); first | (go_simp; done) | (go_simp; with_reducible rfl))
 apply tk 9 (some 7) (.assign (.tmp 50)) 3 none rfl (by kernel_rfl) (fun _ _ _ h => h) (by rfl) hSS
 ·(intro w9 hSw; (try dsimp only at hSw); (try go_split_ands); first | (go_simp; done) | (go_simp; with_reducible rfl))
 try simp only [Act.put, List.setIfInBounds_toArray, List.set_cons_zero, List.set_cons_succ]
 refine wpAnyH_done (by kernel_rfl) (NoPanic.normal ?_) _
 clear hSS
 obtain ⟨f1, f2, zs, f3, f4, f5⟩ := H2.out
 have FIN := hid (HF.out w2 gm cpm r2 zs f1 f2 f3 f4 f5)
 clear f1 f2 f3 f4 f5 H2 HF
 go_wp2
 exact FIN.out
end Go.Proofs.YtldlejpacgphmaaGreat
namespace Go.Proofs.YtldlejpacgphmaaGreat
open Go.RowKit Go.Deep
set_option maxRecDepth 100000 in
set_option maxHeartbeats 4000000 in
theorem act_mirror {W : Nat → Prop} {w : World} {wb room nb fr bl K lasted : Nat} {H : List Int} {Us : List (List Pm)} (hWD : WD W w wb room nb fr bl K lasted H Us) (at_ keep fz again : Int) (a0 : Option Addr) (N cp : Nat) :
  Calls Tryz.prog 11 #[.pointer (some ⟨wb, 0, none⟩), .agg #[.int .i64 7, .int .i64 at_, .slice a0 N cp, .int .u64 keep, .int .i64 fz, .int .i64 again]] w fun e w' => e = .returned (.bool true) ∧ But W w w' ∧ ∃ W' Us', WD W' w' wb room nb fr bl K lasted H Us' ∧ (∀ k, k < w.heap.size → W' k → W k) := by
 obtain ⟨PO, hPO⟩ : ∃ PO : Ending → World → Prop, PO = fun e w' => e = .returned (.bool true) ∧ But W w w' ∧ ∃ W' Us', WD W' w' wb room nb fr bl K lasted H Us' ∧ (∀ k, k < w.heap.size → W' k → W k) := ⟨_, rfl⟩
 rw [← hPO]
 obtain ⟨w1, hw1⟩ : ∃ w1, w1 = w.alloc (.cells #[.int .i64 7, .int .i64 at_, .slice a0 N cp, .int .u64 keep, .int .i64 fz, .int .i64 again] 33) := ⟨_, rfl⟩
 have b1 : Below w.heap.size w w1 := by rw [hw1]; exact (Below.refl _ _).alloc (Nat.le_refl _) _
 have HA : Hid (Calls Tryz.prog 42 #[.pointer (some ⟨wb, 0, none⟩), .agg #[.int .i64 7, .int .i64 at_, .slice a0 N cp, .int .u64 keep, .int .i64 fz, .int .i64 again]] w1 fun e w2 => ∃ gp, e = .returned (.slice (some ⟨gp, 0, none⟩) 1 1) ∧ Calls Tryz.prog 41 #[.pointer (some ⟨wb, 0, none⟩), .slice (some ⟨gp, 0, none⟩) 1 1] w2 fun e w3 => e = .returned (.bool true) ∧ PO (.returned (.bool true)) w3) := by
  refine Calls.mono (mirror_any (hWD.below b1) 7 at_ keep fz again (.slice a0 N cp)) ?_
  rintro e w2 ⟨gp, q, rfl, q1, q2, q3, b2⟩
  have b12 := b1.trans (b2.mono b1.size)
  refine ⟨gp, rfl, Calls.mono (append_any (hWD.below b12) (some ⟨gp, 0, none⟩) 1 [q] q1 (by simp) (fun p hp => by simp only [List.mem_singleton] at hp; subst hp; exact ⟨by omega, q3⟩)) ?_⟩
  rintro e w3 ⟨rfl, r1, W', Us', r2, r3, _⟩
  refine ⟨rfl, ?_⟩
  rw [hPO]
  exact ⟨rfl, (But.of_below b12 (X := W)).comp r1 (fun _ _ q => q), W', Us', r2, fun k hk q => r3 k (Nat.lt_of_lt_of_le hk b12.size) q⟩
 have HW1 := hid hw1
 clear hWD hPO hw1 b1
 by_cases hz : 0 ≤ fz
 ·go_enter Tryz.func11, Tryz.ntmps11
  go_wp2_with fail
  rw [← HW1.out]
  refine Calls.mono HA.out ?_
  rintro e w2 ⟨gp, rfl, hP⟩
  have HP := hid hP
  clear hP HA
  go_wp2_with fail
  refine Calls.mono HP.out ?_
  rintro e w3 ⟨rfl, hP⟩
  have FIN := hid hP
  clear hP HP
  go_wp2
  exact FIN.out
 ·go_enter Tryz.func11, Tryz.ntmps11
  go_wp2_with fail
  rw [← HW1.out]
  refine Calls.mono HA.out ?_
  rintro e w2 ⟨gp, rfl, hP⟩
  have HP := hid hP
  clear hP HA
  go_wp2_with fail
  refine Calls.mono HP.out ?_
  rintro e w3 ⟨rfl, hP⟩
  have FIN := hid hP
  clear hP HP
  go_wp2
  exact FIN.out
set_option maxRecDepth 100000 in
set_option maxHeartbeats 4000000 in
theorem act_reopen {W : Nat → Prop} {w : World} {wb room nb fr bl K lasted : Nat} {H : List Int} {Us : List (List Pm)} (hWD : WD W w wb room nb fr bl K lasted H Us) (at_ keep again : Int) (pv : Value) :
  Calls Tryz.prog 11 #[.pointer (some ⟨wb, 0, none⟩), .agg #[.int .i64 6, .int .i64 at_, pv, .int .u64 keep, .int .i64 (-1), .int .i64 again]] w (FluW W w wb room nb fr bl K H Us) := by
 obtain ⟨PO, hPO⟩ : ∃ PO : Ending → World → Prop, PO = FluW W w wb room nb fr bl K H Us := ⟨_, rfl⟩
 rw [← hPO]
 obtain ⟨w1, hw1⟩ : ∃ w1, w1 = w.alloc (.cells #[.int .i64 6, .int .i64 at_, pv, .int .u64 keep, .int .i64 (-1), .int .i64 again] 33) := ⟨_, rfl⟩
 have b1 : Below w.heap.size w w1 := by rw [hw1]; exact (Below.refl _ _).alloc (Nat.le_refl _) _
 have HA : Hid (Calls Tryz.prog 49 #[.pointer (some ⟨wb, 0, none⟩)] w1 fun e w3 => e = .returned (.bool true) ∧ PO (.returned (.bool true)) w3) := by
  refine Calls.mono (reopen_any (hWD.below b1)) ?_
  rintro e w3 ⟨rfl, r1, W', r2, r3⟩
  refine ⟨rfl, ?_⟩
  rw [hPO]
  exact ⟨rfl, (But.of_below b1 (X := W)).comp r1 (fun _ _ q => q), W', r2, fun k hk q => r3 k (Nat.lt_of_lt_of_le hk b1.size) q⟩
 have HW1 := hid hw1
 clear hWD hPO hw1 b1
 go_enter Tryz.func11, Tryz.ntmps11
 go_wp2_with fail
 rw [← HW1.out]
 refine Calls.mono HA.out ?_
 rintro e w3 ⟨rfl, hP⟩
 have FIN := hid hP
 clear hP HA
 go_wp2
 exact FIN.out
set_option maxRecDepth 100000 in
set_option maxHeartbeats 4000000 in
theorem act_again {W : Nat → Prop} {w : World} {wb room nb fr bl K lasted : Nat} {H : List Int} {Us : List (List Pm)} (hWD : WD W w wb room nb fr bl K lasted H Us) (hK : K + nb < 4611686018427387904) (at_ keep again : Int) (pv : Value) :
  Calls Tryz.prog 11 #[.pointer (some ⟨wb, 0, none⟩), .agg #[.int .i64 9, .int .i64 at_, pv, .int .u64 keep, .int .i64 (-1), .int .i64 again]] w (FluW W w wb room nb fr bl (K + nb) H Us) := by
 obtain ⟨PO, hPO⟩ : ∃ PO : Ending → World → Prop, PO = FluW W w wb room nb fr bl (K + nb) H Us := ⟨_, rfl⟩
 rw [← hPO]
 obtain ⟨w1, hw1⟩ : ∃ w1, w1 = w.alloc (.cells #[.int .i64 9, .int .i64 at_, pv, .int .u64 keep, .int .i64 (-1), .int .i64 again] 33) := ⟨_, rfl⟩
 have b1 : Below w.heap.size w w1 := by rw [hw1]; exact (Below.refl _ _).alloc (Nat.le_refl _) _
 have HA : Hid (Calls Tryz.prog 50 #[.pointer (some ⟨wb, 0, none⟩)] w1 fun e w3 => e = .returned (.bool true) ∧ PO (.returned (.bool true)) w3) := by
  refine Calls.mono (again_any (hWD.below b1) hK) ?_
  rintro e w3 ⟨rfl, r1, W', r2, r3⟩
  refine ⟨rfl, ?_⟩
  rw [hPO]
  exact ⟨rfl, (But.of_below b1 (X := W)).comp r1 (fun _ _ q => q), W', r2, fun k hk q => r3 k (Nat.lt_of_lt_of_le hk b1.size) q⟩
 have HW1 := hid hw1
 clear hWD hPO hw1 b1
 go_enter Tryz.func11, Tryz.ntmps11
 go_wp2_with fail
 rw [← HW1.out]
 refine Calls.mono HA.out ?_
 rintro e w3 ⟨rfl, hP⟩
 have FIN := hid hP
 clear hP HA
 go_wp2
 exact FIN.out
def ActW (W : Nat → Prop) (w : World) (wb room nb fr bl K : Nat) (H : List Int) (kd : Int) (e : Ending) (w' : World) : Prop :=
 e = .returned (.bool true) ∧ But W w w' ∧ ∃ W' lasted' Us', WD W' w' wb room nb fr bl (K + nb + 1) lasted' H Us' ∧ (∀ k, k < w.heap.size → W' k → W k) ∧ (kd = 3 ∨ kd = 4 → lasted' = Us'.length)
theorem act_any {W : Nat → Prop} {w : World} {wb room nb fr bl K lasted : Nat} {H : List Int} {Us : List (List Pm)} (hWD : WD W w wb room nb fr bl K lasted H Us) (hK : K + nb < 4611686018427387904) (kd at_ keep fz again : Int) (hfz : fz = -1 ∨ kd = 7) (a0 : Option Addr) (cp : Nat) (ps : List Pm) (hR : RdP W w a0 ps) (hN : ps.length ≤ 536870912) (hd : ∀ p ∈ ps, p.data.length ≤ 16777216 ∧ (p.ad = none → p.cap = 0)) :
  Calls Tryz.prog 11 #[.pointer (some ⟨wb, 0, none⟩), .agg #[.int .i64 kd, .int .i64 at_, .slice a0 ps.length cp, .int .u64 keep, .int .i64 fz, .int .i64 again]] w (ActW W w wb room nb fr bl K H kd) := by
 by_cases h7 : kd = 7
 ·subst h7
  refine Calls.mono (act_mirror hWD at_ keep fz again a0 ps.length cp) ?_
  rintro e w' ⟨rfl, q1, W', Us', q2, q3⟩
  exact ⟨rfl, q1, W', lasted, Us', q2.monoK (by omega), q3, fun q => by omega⟩
 have hf : fz = -1 := hfz.resolve_right h7
 subst hf
 have flu : ∀ {e w'} (K' : Nat), K' ≤ K + nb + 1 → FluW W w wb room nb fr bl K' H Us e w' → ActW W w wb room nb fr bl K H kd e w' := fun K' hK' ⟨q0, q1, W', q2, q3⟩ => ⟨q0, q1, W', Us.length, Us, q2.monoK hK', q3, fun _ => rfl⟩
 have st : ∀ {e w'} (K' : Nat), K' ≤ K + nb + 1 → ¬ (kd = 3 ∨ kd = 4) → StW W w wb room nb fr bl K' lasted H Us e w' → ActW W w wb room nb fr bl K H kd e w' := fun K' hK' hn ⟨q0, q1, W', q2, q3⟩ => ⟨q0, q1, W', lasted, Us, q2.monoK hK', q3, fun q => absurd q hn⟩
 by_cases h1 : kd = 1
 ·subst h1
  refine Calls.mono (act_append hWD at_ keep again a0 cp ps hR hN hd) ?_
  rintro e w' ⟨q0, q1, W', Us', q2, q3, _⟩
  exact ⟨q0, q1, W', lasted, Us', q2.monoK (by omega), q3, fun q => by omega⟩
 by_cases h2 : kd = 2
 ·subst h2
  exact Calls.mono (act_read hWD (by omega) at_ keep again _) (fun e w' q => st (K + 1) (by omega) (by omega) q)
 by_cases h3 : kd = 3
 ·subst h3
  exact Calls.mono (act_flush hWD at_ keep again _) (fun e w' q => flu K (by omega) q)
 by_cases h4 : kd = 4
 ·subst h4
  exact Calls.mono (act_check hWD at_ keep again _) (fun e w' q => flu K (by omega) q)
 by_cases h5 : kd = 5
 ·subst h5
  exact Calls.mono (act_seq hWD at_ keep again _) (fun e w' q => st K (by omega) (by omega) q)
 by_cases h6 : kd = 6
 ·subst h6
  exact Calls.mono (act_reopen hWD at_ keep again _) (fun e w' q => flu K (by omega) q)
 by_cases h9 : kd = 9
 ·subst h9
  exact Calls.mono (act_again hWD hK at_ keep again _) (fun e w' q => flu (K + nb) (by omega) q)
 exact Calls.mono (act_none hWD kd at_ keep again _ h1 h2 h3 h4 h5 h6 h7 h9) (fun e w' q => st K (by omega) (by omega) q)
end Go.Proofs.YtldlejpacgphmaaGreat
