import Derived.Test.YtldlejpacgphmaaGreatG37
import Derived.Test.YtldlejpacgphmaaGreatG24
import Derived.Test.YtldlejpacgphmaaGreatG38
import Derived.Test.YtldlejpacgphmaaGreatG39
namespace Go.Proofs.YtldlejpacgphmaaGreat
open Go.RowKit Go.Deep
set_option maxRecDepth 100000 in
set_option maxHeartbeats 8000000 in
theorem mirror_any {W : Nat → Prop} {w : World} {wb room nb fr bl K lasted : Nat} {H : List Int} {Us : List (List Pm)} (hWD : WD W w wb room nb fr bl K lasted H Us) (kd at_ keep fz again : Int) (pv : Value) :
  Calls Tryz.prog 42 #[.pointer (some ⟨wb, 0, none⟩), .agg #[.int .i64 kd, .int .i64 at_, pv, .int .u64 keep, .int .i64 fz, .int .i64 again]] w fun e w' => ∃ gp q, e = .returned (.slice (some ⟨gp, 0, none⟩) 1 1) ∧ RdP W w' (some ⟨gp, 0, none⟩) [q] ∧ q.data.length = 512 ∧ (q.ad = none → q.cap = 0) ∧ Below w.heap.size w w' := by
 obtain ⟨PO, hPO⟩ : ∃ PO : Ending → World → Prop, PO = fun e w' => ∃ gp q, e = .returned (.slice (some ⟨gp, 0, none⟩) 1 1) ∧ RdP W w' (some ⟨gp, 0, none⟩) [q] ∧ q.data.length = 512 ∧ (q.ad = none → q.cap = 0) ∧ Below w.heap.size w w' := ⟨_, rfl⟩
 rw [← hPO]
 obtain ⟨ab, hab⟩ : ∃ ab, ab = w.heap.size := ⟨_, rfl⟩
 obtain ⟨w1, hw1⟩ : ∃ w1, w1 = w.alloc (.cells #[.int .i64 kd, .int .i64 at_, pv, .int .u64 keep, .int .i64 fz, .int .i64 again] 33) := ⟨_, rfl⟩
 have b1 : Below w.heap.size w w1 := by rw [hw1]; exact (Below.refl _ _).alloc (Nat.le_refl _) _
 have z1 : w1.heap.size = w.heap.size + 1 := by rw [hw1]; simp
 have a1 : w1.cell? ⟨ab, 1, none⟩ = some (.int .i64 at_) := by rw [hw1, hab]; exact cell_new rfl 1 _ rfl
 have a4 : w1.cell? ⟨ab, 4, none⟩ = some (.int .i64 fz) := by rw [hw1, hab]; exact cell_new rfl 4 _ rfl
 have hWlt : ∀ k, W k → k < w.heap.size := fun k q => by
  obtain ⟨Z0, p0, c0, j0, g0, tr0, tl0, td0, hb0, hc0, ta0, tc0, vs0, Ls0, n0, cs0, d0, s0, h0, _, hW0⟩ := hWD
  rw [hW0] at q
  exact h0.mu_lt q
 obtain ⟨Z, p, c, j, g, tried, tl, td, hb, hc, ta, tc, vs, Ls, n1, cs, d, s, h, hOn, hW⟩ := hWD.below b1
 have hnb9 := h.nb
 have hpl := hOn.puts h.lo h.fit h.nb
 have hlo9 := h.lo
 have hfit9 := h.fit
 have HKeep : Hid (∀ w', Below w1.heap.size w1 w' → w'.cell? ⟨wb, 0, none⟩ = some (.pointer (some ⟨p, 0, none⟩)) ∧ w'.cell? ⟨wb, 3, none⟩ = some (.pointer (some ⟨g, 0, none⟩)) ∧ w'.cell? ⟨g, 1, none⟩ = some (.int .i64 (fr : Int)) ∧ w'.cell? ⟨g, 2, none⟩ = some (.int .i64 (bl : Int)) ∧ w'.cell? ⟨ab, 4, none⟩ = some (.int .i64 fz) ∧ w'.cell? ⟨ab, 1, none⟩ = some (.int .i64 at_)) := fun w' hb' => by
  have h' := h.below hb'
  have hal : ab < w1.heap.size := by omega
  exact ⟨h'.wd.cell 0, h'.wd.cell 3, h'.lg.lg.c1, h'.lg.lg.c2, (hb'.cell (p := ⟨ab, 4, none⟩) hal).trans a4, (hb'.cell (p := ⟨ab, 1, none⟩) hal).trans a1⟩
 obtain ⟨k0, k3, g1, g2, _, _⟩ := HKeep.out w1 (Below.refl _ _)
 have HLow := hid low_any
 have HRd : Hid (∀ x, x < nb → Calls Tryz.prog 67 #[.pointer (some ⟨p, 0, none⟩), .int .i64 (x : Int)] w1.drew fun e w2 => ∃ gm cpm, e = .returned (.tuple #[.slice (some ⟨gm, 0, none⟩) 512 cpm, .int .i64 0]) ∧ Below w1.heap.size w1 w2 ∧ w1.heap.size ≤ gm ∧ ∃ zs, zs.length = 512 ∧ Pl.isB zs ∧ Own w2 gm 512 cpm zs) := fun x hx => by
  refine Calls.mono (Cq.dread h.jq.toCq.drew (by omega) hOn.on x hx) ?_
  rintro e w2 ⟨gm, cpm, rfl, q1, q2, q3⟩
  obtain ⟨q4, q5⟩ := Pd.read_len h.jq.toCq x hx
  exact ⟨gm, cpm, rfl, (Below.refl w1.heap.size w1).drew.trans q3, q1, d.read x, q4, q5, q2⟩
 have HDkA : Hid (∀ w', Below w1.heap.size w1 w' → Calls Tryz.prog 14 #[.pointer (some ⟨g, 0, none⟩)] w'.drew fun e w'' => e = .returned (.int .i64 (nb : Int)) ∧ w'' = w'.drew) := fun w' hb' => refDisk_any (h.below hb'.drew).lg.lg h.nb
 have n1nb := h.jq.fits.2.1
 have HF : Hid (∀ (w2 : World) (gm cpm r2 : Nat) (zs : List Int), Below w1.heap.size w1 w2 → w1.heap.size ≤ gm → zs.length = 512 → Pl.isB zs → Own w2 gm 512 cpm zs → PO (.returned (.slice (some ⟨w2.heap.size, 0, none⟩) 1 1)) (w2.drew.alloc (.cells #[.int .i64 (r2 : Int), .slice (some ⟨gm, 0, none⟩) 512 cpm] 68))) := fun w2 gm cpm r2 zs q1 q2 q3 q4 q5 => by
  rw [hPO]
  have hs := q1.size
  have bA : Below w2.heap.size w2 (w2.drew.alloc (.cells #[.int .i64 (r2 : Int), .slice (some ⟨gm, 0, none⟩) 512 cpm] 68)) := (Below.refl w2.heap.size w2).drew.alloc (Nat.le_refl _) _
  refine ⟨w2.heap.size, ⟨(r2 : Int), some ⟨gm, 0, none⟩, cpm, zs⟩, rfl, ⟨fun q hq => ?_, .inr ⟨w2.heap.size, 0, rfl, by simp, fun q => by have := hWlt _ q; omega, fun t q hq => ?_⟩⟩, q3, (fun e => by cases e), b1.trans ((q1.trans (bA.mono hs)).mono b1.size)⟩
  ·simp only [List.mem_singleton] at hq
   subst hq
   have := (q5.keep (bA.block gm q5.lt)).rdn (X := W) q4 (fun q => by have := hWlt _ q; omega)
   simp only
   rw [q3]
   exact this
  ·rcases t with _ | t
   ·simp only [List.getElem?_cons_zero, Option.some.injEq] at hq
    subst hq
    simp only
    rw [q3]
    exact ⟨cell_new rfl 0 _ rfl, cell_new rfl 1 _ rfl⟩
   ·simp at hq
 have HN := hid (num_any 0)
 have HW1 := hid hw1
 have HAB := hid hab
 obtain ⟨v24, hv24⟩ : ∃ v24, IntKind.i64.wrap (fz + at_) = v24 := ⟨_, rfl⟩
 have hb0 : ¬ ((bl : Int) = 0) := by omega
 have hb1 : ¬ (bl = 0) := by omega
 have hb2 : ((bl : Int) == 0) = false := by simpa using hb0
 have hn0 : ¬ ((nb : Int) = 0) := by omega
 have hn1 : ¬ (nb = 0) := by omega
 have hn2 : ((nb : Int) == 0) = false := by simpa using hn0
 clear hWD h hOn hW hPO hw1 b1 hpl z1 hab hWlt
 go_enter Tryz.func42, Tryz.ntmps42
 go_wp2_with fail
 rw [← HW1.out, ← HAB.out]
 refine wp_region_noPanic ?_
 refine wp_region_held_drew (S := fun w' => w'.cell? ⟨wb, 0, none⟩ = some (.pointer (some ⟨p, 0, none⟩)) ∧ w'.cell? ⟨wb, 3, none⟩ = some (.pointer (some ⟨g, 0, none⟩)) ∧ w'.cell? ⟨g, 1, none⟩ = some (.int .i64 (fr : Int)) ∧ w'.cell? ⟨g, 2, none⟩ = some (.int .i64 (bl : Int)) ∧ w'.cell? ⟨ab, 4, none⟩ = some (.int .i64 fz) ∧ w'.cell? ⟨ab, 1, none⟩ = some (.int .i64 at_)) (by kernel_rfl) ⟨k0, k3, g1, g2, a4, a1⟩ (fun hSS => ?_)
 apply tk 0 (some 9) (.move (.tmp 0)) 27 none rfl (by kernel_rfl) (fun _ _ _ h => h) (by rfl) hSS
 ·(intro a h; (try dsimp only at h); (try go_split_ands); go_simp; try with_reducible rfl)
 apply tk 1 (some 10) (.nilCheck (.tmp 9)) 0 none rfl (by kernel_rfl) (fun _ _ _ h => h) (by rfl) hSS
 ·(intro a h; (try dsimp only at h); (try go_split_ands); go_simp; try with_reducible rfl)
 apply tk 2 (some 11) (.fieldAddr 45 (.tmp 10) 0) 0 none rfl (by kernel_rfl) (fun _ _ _ h => h) (by rfl) hSS
 ·(intro a h; (try dsimp only at h); (try go_split_ands); go_simp; try with_reducible rfl)
 apply tk 3 (some 12) (.load 37 (.tmp 11)) 37 none rfl (by kernel_rfl) (fun _ _ _ h => h) (by rfl) hSS
 ·(intro a h; (try dsimp only at h); (try go_split_ands); go_simp; try with_reducible rfl)
 try simp only [Act.put, List.setIfInBounds_toArray, List.set_cons_zero, List.set_cons_succ]
 apply tk 4 (some 13) (.move (.tmp 0)) 27 none rfl (by kernel_rfl) (fun _ _ _ h => h) (by rfl) hSS
 ·(intro a h; (try dsimp only at h); (try go_split_ands); go_simp; try with_reducible rfl)
 apply tk 5 (some 14) (.nilCheck (.tmp 13)) 0 none rfl (by kernel_rfl) (fun _ _ _ h => h) (by rfl) hSS
 ·(intro a h; (try dsimp only at h); (try go_split_ands); go_simp; try with_reducible rfl)
 apply tk 6 (some 15) (.fieldAddr 45 (.tmp 14) 3) 0 none rfl (by kernel_rfl) (fun _ _ _ h => h) (by rfl) hSS
 ·(intro a h; (try dsimp only at h); (try go_split_ands); go_simp; try with_reducible rfl)
 apply tk 7 (some 16) (.load 40 (.tmp 15)) 40 none rfl (by kernel_rfl) (fun _ _ _ h => h) (by rfl) hSS
 ·(intro a h; (try dsimp only at h); (try go_split_ands); go_simp; try with_reducible rfl)
 try simp only [Act.put, List.setIfInBounds_toArray, List.set_cons_zero, List.set_cons_succ]
 apply tk 8 (some 17) (.nilCheck (.tmp 16)) 0 none rfl (by kernel_rfl) (fun _ _ _ h => h) (by rfl) hSS
 ·(intro a h; (try dsimp only at h); (try go_split_ands); go_simp; try with_reducible rfl)
 apply tk 9 (some 18) (.fieldAddr 48 (.tmp 17) 1) 0 none rfl (by kernel_rfl) (fun _ _ _ h => h) (by rfl) hSS
 ·(intro a h; (try dsimp only at h); (try go_split_ands); go_simp; try with_reducible rfl)
 apply tk 10 (some 19) (.load 3 (.tmp 18)) 3 none rfl (by kernel_rfl) (fun _ _ _ h => h) (by rfl) hSS
 ·(intro a h; (try dsimp only at h); (try go_split_ands); go_simp; try with_reducible rfl)
 apply tk 11 (some 20) (.fieldAddr 33 (.tmp 3) 4) 0 none rfl (by kernel_rfl) (fun _ _ _ h => h) (by rfl) hSS
 ·(intro a h; (try dsimp only at h); (try go_split_ands); go_simp; try with_reducible rfl)
 try simp only [Act.put, List.setIfInBounds_toArray, List.set_cons_zero, List.set_cons_succ]
 apply tk 12 (some 21) (.load 3 (.tmp 20)) 3 none rfl (by kernel_rfl) (fun _ _ _ h => h) (by rfl) hSS
 ·(intro a h; (try dsimp only at h); (try go_split_ands); go_simp; try with_reducible rfl)
 apply tk 13 (some 22) (.fieldAddr 33 (.tmp 3) 1) 0 none rfl (by kernel_rfl) (fun _ _ _ h => h) (by rfl) hSS
 ·(intro a h; (try dsimp only at h); (try go_split_ands); go_simp; try with_reducible rfl)
 apply tk 14 (some 23) (.load 3 (.tmp 22)) 3 none rfl (by kernel_rfl) (fun _ _ _ h => h) (by rfl) hSS
 ·(intro a h; (try dsimp only at h); (try go_split_ands); go_simp; try with_reducible rfl)
 apply tk 15 (some 24) (.binOp .add 3 (.tmp 21) (.tmp 23) 3) 3 none rfl (by kernel_rfl) (fun _ _ _ h => h) (by rfl) hSS
 ·(intro a h; (try dsimp only at h); (try go_split_ands); go_simp; try with_reducible rfl)
 try simp only [Act.put, List.setIfInBounds_toArray, List.set_cons_zero, List.set_cons_succ]
 apply tk 17 (some 26) (.move (.tmp 0)) 27 none rfl (by kernel_rfl) (fun _ _ _ h => h) (by rfl) hSS
 ·(intro a h; (try dsimp only at h); (try go_split_ands); go_simp; try with_reducible rfl)
 apply tk 18 (some 27) (.nilCheck (.tmp 26)) 0 none rfl (by kernel_rfl) (fun _ _ _ h => h) (by rfl) hSS
 ·(intro a h; (try dsimp only at h); (try go_split_ands); go_simp; try with_reducible rfl)
 apply tk 19 (some 28) (.fieldAddr 45 (.tmp 27) 3) 0 none rfl (by kernel_rfl) (fun _ _ _ h => h) (by rfl) hSS
 ·(intro a h; (try dsimp only at h); (try go_split_ands); go_simp; try with_reducible rfl)
 apply tk 20 (some 29) (.load 40 (.tmp 28)) 40 none rfl (by kernel_rfl) (fun _ _ _ h => h) (by rfl) hSS
 ·(intro a h; (try dsimp only at h); (try go_split_ands); go_simp; try with_reducible rfl)
 try simp only [Act.put, List.setIfInBounds_toArray, List.set_cons_zero, List.set_cons_succ]
 apply tk 21 (some 30) (.nilCheck (.tmp 29)) 0 none rfl (by kernel_rfl) (fun _ _ _ h => h) (by rfl) hSS
 ·(intro a h; (try dsimp only at h); (try go_split_ands); go_simp; try with_reducible rfl)
 apply tk 22 (some 31) (.fieldAddr 48 (.tmp 30) 2) 0 none rfl (by kernel_rfl) (fun _ _ _ h => h) (by rfl) hSS
 ·(intro a h; (try dsimp only at h); (try go_split_ands); go_simp; try with_reducible rfl)
 apply tk 23 (some 32) (.load 3 (.tmp 31)) 3 none rfl (by kernel_rfl) (fun _ _ _ h => h) (by rfl) hSS
 ·(intro a h; (try dsimp only at h); (try go_split_ands); go_simp; try with_reducible rfl)
 try simp only [Act.put, List.setIfInBounds_toArray, List.set_cons_zero, List.set_cons_succ]
 refine wpAnyH_ready (rs := [16]) (by kernel_rfl) (by simp) (AllReadyH.cons (o := ({ dst := some 25, op := Op.call { callee := Callee.value (Operand.func 23), args := #[Operand.tmp 24], argTypes := #[3] }, type := 3, pos := _, after := _, guard := none } : Oper)) rfl (fun K9 hK9 => ?_) AllReadyH.nil)
 go_simp
 go_at_call 23
 refine Calls.mono (HLow.out v24 w1.drew) ?_
 rintro e w9 ⟨y, rfl, hy, hw9, hye⟩
 clear hye
 rw [hw9]
 clear hw9
 obtain ⟨r, hr⟩ : ∃ r : Nat, r = y % bl := ⟨_, rfl⟩
 have hrl : r < bl := by rw [hr]; exact Nat.mod_lt _ (by omega)
 have u1 : (y : Int).tmod (bl : Int) = (r : Int) := by rw [Int.tmod_eq_emod_of_nonneg (by omega), hr]; exact (Int.natCast_emod y bl).symm
 have u2 : (y : Int) % (bl : Int) = (r : Int) := by rw [hr]; exact (Int.natCast_emod y bl).symm
 have u3 : IntKind.i64.wrap (r : Int) = (r : Int) := by rw [IntKind.wrap_i64]; omega
 obtain ⟨x, hx⟩ : ∃ x : Nat, x = fr + r := ⟨_, rfl⟩
 have u4 : (fr : Int) + (r : Int) = (x : Int) := by omega
 have u5 : IntKind.i64.wrap (x : Int) = (x : Int) := by rw [IntKind.wrap_i64]; omega
 have HRx := hid (HRd.out x (by omega))
 clear hr hx hrl HRd hy
 refine hK9.out _ _ ⟨k0, k3, g1, g2, a4, a1⟩ (fun hSS => ?_)
 clear hK9 K9
 try simp only [Act.put, List.setIfInBounds_toArray, List.set_cons_zero, List.set_cons_succ]
 apply tk 24 (some 33) (.binOp .rem 3 (.tmp 25) (.tmp 32) 3) 3 none rfl (by kernel_rfl) (fun _ _ _ h => h) (by rfl) hSS
 ·(intro a h; (try dsimp only at h); (try go_split_ands); go_simp; try with_reducible rfl)
 apply tk 25 (some 34) (.binOp .add 3 (.tmp 19) (.tmp 33) 3) 3 none rfl (by kernel_rfl) (fun _ _ _ h => h) (by rfl) hSS
 ·(intro a h; (try dsimp only at h); (try go_split_ands); go_simp; try with_reducible rfl)
 try simp only [Act.put, List.setIfInBounds_toArray, List.set_cons_zero, List.set_cons_succ]
 refine wpAnyH_ready (rs := [26]) (by kernel_rfl) (by simp) (AllReadyH.cons (o := ({ dst := some 35, op := Op.call { callee := Callee.value (Operand.func 67), args := #[Operand.tmp 12, Operand.tmp 34], argTypes := #[37, 3] }, type := 72, pos := _, after := _, guard := none } : Oper)) rfl (fun K9 hK9 => ?_) AllReadyH.nil)
 go_simp
 go_at_call 67
 refine Calls.mono HRx.out ?_
 rintro e w2 ⟨gm, cpm, rfl, F2⟩
 have H2 := hid F2
 obtain ⟨l0, l3, lg1, lg2, la4, la1⟩ := HKeep.out w2 F2.1
 clear F2 HRx
 refine hK9.out _ _ ⟨l0, l3, lg1, lg2, la4, la1⟩ (fun hSS => ?_)
 clear hK9 K9
 try simp only [Act.put, List.setIfInBounds_toArray, List.set_cons_zero, List.set_cons_succ]
 apply tk 27 (some 8) (.move (.tmp 35)) 72 none rfl (by kernel_rfl) (fun _ _ _ h => h) (by rfl) hSS
 ·(intro a h; (try dsimp only at h); (try go_split_ands); go_simp; try with_reducible rfl)
 try simp only [Act.put, List.setIfInBounds_toArray, List.set_cons_zero, List.set_cons_succ]
 apply tk 28 (some 36) (.extract (.tmp 8) 0) 22 none rfl (by kernel_rfl) (fun _ _ _ h => h) (by rfl) hSS
 ·(intro a h; (try dsimp only at h); (try go_split_ands); go_simp; try with_reducible rfl)
 apply tk 29 (some 37) (.extract (.tmp 8) 1) 55 none rfl (by kernel_rfl) (fun _ _ _ h => h) (by rfl) hSS
 ·(intro a h; (try dsimp only at h); (try go_split_ands); go_simp; try with_reducible rfl)
 apply tk 30 (some 5) (.assign (.tmp 36)) 22 none rfl (by kernel_rfl) (fun _ _ _ h => h) (by rfl) hSS
 ·(intro a h; (try dsimp only at h); (try go_split_ands); go_simp; try with_reducible rfl)
 apply tk 31 (some 6) (.assign (.tmp 37)) 55 none rfl (by kernel_rfl) (fun _ _ _ h => h) (by rfl) hSS
 ·(intro a h; (try dsimp only at h); (try go_split_ands); go_simp; try with_reducible rfl)
 try simp only [Act.put, List.setIfInBounds_toArray, List.set_cons_zero, List.set_cons_succ]
 refine wpAnyH_done (by kernel_rfl) (NoPanic.normal ?_) _
 clear hSS k0 k3 g1 g2 a4 a1
 go_wp2_with fail
 refine Calls.mono (HN.out w2) ?_
 rintro e w9 ⟨rfl, hw9⟩
 rw [hw9]
 clear hw9
 have HDk := hid (HDkA.out w2 H2.out.1)
 clear HDkA
 go_wp2_with fail
 refine wp_region_noPanic ?_
 refine wp_region_held_drew (S := fun w' => w'.cell? ⟨wb, 3, none⟩ = some (.pointer (some ⟨g, 0, none⟩)) ∧ w'.cell? ⟨ab, 1, none⟩ = some (.int .i64 at_)) (by kernel_rfl) ⟨l3, la1⟩ (fun hSS => ?_)
 apply tk 0 (some 42) (.fieldAddr 33 (.tmp 3) 1) 0 none rfl (by kernel_rfl) (fun _ _ _ h => h) (by rfl) hSS
 ·(intro a h; (try dsimp only at h); (try go_split_ands); go_simp; try with_reducible rfl)
 try simp only [Act.put, List.setIfInBounds_toArray, List.set_cons_zero, List.set_cons_succ]
 apply tk 1 (some 43) (.load 3 (.tmp 42)) 3 none rfl (by kernel_rfl) (fun _ _ _ h => h) (by rfl) hSS
 ·(intro a h; (try dsimp only at h); (try go_split_ands); go_simp; try with_reducible rfl)
 apply tk 3 (some 45) (.move (.tmp 0)) 27 none rfl (by kernel_rfl) (fun _ _ _ h => h) (by rfl) hSS
 ·(intro a h; (try dsimp only at h); (try go_split_ands); go_simp; try with_reducible rfl)
 apply tk 4 (some 46) (.nilCheck (.tmp 45)) 0 none rfl (by kernel_rfl) (fun _ _ _ h => h) (by rfl) hSS
 ·(intro a h; (try dsimp only at h); (try go_split_ands); go_simp; try with_reducible rfl)
 apply tk 5 (some 47) (.fieldAddr 45 (.tmp 46) 3) 0 none rfl (by kernel_rfl) (fun _ _ _ h => h) (by rfl) hSS
 ·(intro a h; (try dsimp only at h); (try go_split_ands); go_simp; try with_reducible rfl)
 try simp only [Act.put, List.setIfInBounds_toArray, List.set_cons_zero, List.set_cons_succ]
 apply tk 6 (some 48) (.load 40 (.tmp 47)) 40 none rfl (by kernel_rfl) (fun _ _ _ h => h) (by rfl) hSS
 ·(intro a h; (try dsimp only at h); (try go_split_ands); go_simp; try with_reducible rfl)
 try simp only [Act.put, List.setIfInBounds_toArray, List.set_cons_zero, List.set_cons_succ]
 refine wpAnyH_ready (rs := [2]) (by kernel_rfl) (by simp) (AllReadyH.cons (o := ({ dst := some 44, op := Op.call { callee := Callee.value (Operand.func 23), args := #[Operand.tmp 43], argTypes := #[3] }, type := 3, pos := _, after := _, guard := none } : Oper)) rfl (fun K9 hK9 => ?_) AllReadyH.nil)
 go_simp
 go_at_call 23
 refine Calls.mono (HLow.out at_ w2.drew) ?_
 rintro e w9 ⟨y2, rfl, hy2, hw9, hye⟩
 clear hye
 rw [hw9]
 clear hw9
 obtain ⟨r2, hr2⟩ : ∃ r2 : Nat, r2 = y2 % nb := ⟨_, rfl⟩
 have hrl2 : r2 < nb := by rw [hr2]; exact Nat.mod_lt _ (by omega)
 have v1 : (y2 : Int).tmod (nb : Int) = (r2 : Int) := by rw [Int.tmod_eq_emod_of_nonneg (by omega), hr2]; exact (Int.natCast_emod y2 nb).symm
 have v2 : (y2 : Int) % (nb : Int) = (r2 : Int) := by rw [hr2]; exact (Int.natCast_emod y2 nb).symm
 have v3 : IntKind.i64.wrap (r2 : Int) = (r2 : Int) := by rw [IntKind.wrap_i64]; omega
 clear hr2 hy2
 refine hK9.out _ _ ⟨l3, la1⟩ (fun hSS => ?_)
 clear hK9 K9
 try simp only [Act.put, List.setIfInBounds_toArray, List.set_cons_zero, List.set_cons_succ]
 refine wpAnyH_ready (rs := [7]) (by kernel_rfl) (by simp) (AllReadyH.cons (o := ({ dst := some 49, op := Op.call { callee := Callee.value (Operand.func 14), args := #[Operand.tmp 48], argTypes := #[40] }, type := 3, pos := _, after := _, guard := none } : Oper)) rfl (fun K9 hK9 => ?_) AllReadyH.nil)
 go_simp
 go_at_call 14
 refine Calls.mono HDk.out ?_
 rintro e w9 ⟨rfl, hw9⟩
 rw [hw9]
 clear hw9 HDk
 refine hK9.out _ _ ⟨l3, la1⟩ (fun hSS => ?_)
 clear hK9 K9
 try simp only [Act.put, List.setIfInBounds_toArray, List.set_cons_zero, List.set_cons_succ]
 apply tk 8 (some 50) (.binOp .rem 3 (.tmp 44) (.tmp 49) 3) 3 none rfl (by kernel_rfl) (fun _ _ _ h => h) (by rfl) hSS
 ·(intro a h; (try dsimp only at h); (try go_split_ands); go_simp; try with_reducible rfl)
 apply tk 9 (some 7) (.assign (.tmp 50)) 3 none rfl (by kernel_rfl) (fun _ _ _ h => h) (by rfl) hSS
 ·(intro a h; (try dsimp only at h); (try go_split_ands); go_simp; try with_reducible rfl)
 try simp only [Act.put, List.setIfInBounds_toArray, List.set_cons_zero, List.set_cons_succ]
 refine wpAnyH_done (by kernel_rfl) (NoPanic.normal ?_) _
 clear hSS
 obtain ⟨f1, f2, zs, f3, f4, f5⟩ := H2.out
 have FIN := hid (HF.out w2 gm cpm r2 zs f1 f2 f3 f4 f5)
 clear f1 f2 f3 f4 f5 H2 HF
 go_wp2
 exact FIN.out
end Go.Proofs.YtldlejpacgphmaaGreat
namespace Go.Proofs.YtldlejpacgphmaaGreat
open Go.RowKit Go.Deep
set_option maxRecDepth 100000 in
set_option maxHeartbeats 4000000 in
theorem act_mirror {W : Nat → Prop} {w : World} {wb room nb fr bl K lasted : Nat} {H : List Int} {Us : List (List Pm)} (hWD : WD W w wb room nb fr bl K lasted H Us) (at_ keep fz again : Int) (a0 : Option Addr) (N cp : Nat) :
  Calls Tryz.prog 11 #[.pointer (some ⟨wb, 0, none⟩), .agg #[.int .i64 7, .int .i64 at_, .slice a0 N cp, .int .u64 keep, .int .i64 fz, .int .i64 again]] w fun e w' => e = .returned (.bool true) ∧ But W w w' ∧ ∃ W' Us', WD W' w' wb room nb fr bl K lasted H Us' ∧ (∀ k, k < w.heap.size → W' k → W k) := by
 obtain ⟨PO, hPO⟩ : ∃ PO : Ending → World → Prop, PO = fun e w' => e = .returned (.bool true) ∧ But W w w' ∧ ∃ W' Us', WD W' w' wb room nb fr bl K lasted H Us' ∧ (∀ k, k < w.heap.size → W' k → W k) := ⟨_, rfl⟩
 rw [← hPO]
 obtain ⟨w1, hw1⟩ : ∃ w1, w1 = w.alloc (.cells #[.int .i64 7, .int .i64 at_, .slice a0 N cp, .int .u64 keep, .int .i64 fz, .int .i64 again] 33) := ⟨_, rfl⟩
 have b1 : Below w.heap.size w w1 := by rw [hw1]; exact (Below.refl _ _).alloc (Nat.le_refl _) _
 have HA : Hid (Calls Tryz.prog 42 #[.pointer (some ⟨wb, 0, none⟩), .agg #[.int .i64 7, .int .i64 at_, .slice a0 N cp, .int .u64 keep, .int .i64 fz, .int .i64 again]] w1 fun e w2 => ∃ gp, e = .returned (.slice (some ⟨gp, 0, none⟩) 1 1) ∧ Calls Tryz.prog 41 #[.pointer (some ⟨wb, 0, none⟩), .slice (some ⟨gp, 0, none⟩) 1 1] w2 fun e w3 => e = .returned (.bool true) ∧ PO (.returned (.bool true)) w3) := by
  refine Calls.mono (mirror_any (hWD.below b1) 7 at_ keep fz again (.slice a0 N cp)) ?_
  rintro e w2 ⟨gp, q, rfl, q1, q2, q3, b2⟩
  have b12 := b1.trans (b2.mono b1.size)
  refine ⟨gp, rfl, Calls.mono (append_any (hWD.below b12) (some ⟨gp, 0, none⟩) 1 [q] q1 (by simp) (fun p hp => by simp only [List.mem_singleton] at hp; subst hp; exact ⟨by omega, q3⟩)) ?_⟩
  rintro e w3 ⟨rfl, r1, W', Us', r2, r3, _⟩
  refine ⟨rfl, ?_⟩
  rw [hPO]
  exact ⟨rfl, (But.of_below b12 (X := W)).comp r1 (fun _ _ q => q), W', Us', r2, fun k hk q => r3 k (Nat.lt_of_lt_of_le hk b12.size) q⟩
 have HW1 := hid hw1
 clear hWD hPO hw1 b1
 by_cases hz : 0 ≤ fz
 ·go_enter Tryz.func11, Tryz.ntmps11
  go_wp2_with fail
  rw [← HW1.out]
  refine Calls.mono HA.out ?_
  rintro e w2 ⟨gp, rfl, hP⟩
  have HP := hid hP
  clear hP HA
  go_wp2_with fail
  refine Calls.mono HP.out ?_
  rintro e w3 ⟨rfl, hP⟩
  have FIN := hid hP
  clear hP HP
  go_wp2
  exact FIN.out
 ·go_enter Tryz.func11, Tryz.ntmps11
  go_wp2_with fail
  rw [← HW1.out]
  refine Calls.mono HA.out ?_
  rintro e w2 ⟨gp, rfl, hP⟩
  have HP := hid hP
  clear hP HA
  go_wp2_with fail
  refine Calls.mono HP.out ?_
  rintro e w3 ⟨rfl, hP⟩
  have FIN := hid hP
  clear hP HP
  go_wp2
  exact FIN.out
set_option maxRecDepth 100000 in
set_option maxHeartbeats 4000000 in
theorem act_reopen {W : Nat → Prop} {w : World} {wb room nb fr bl K lasted : Nat} {H : List Int} {Us : List (List Pm)} (hWD : WD W w wb room nb fr bl K lasted H Us) (at_ keep again : Int) (pv : Value) :
  Calls Tryz.prog 11 #[.pointer (some ⟨wb, 0, none⟩), .agg #[.int .i64 6, .int .i64 at_, pv, .int .u64 keep, .int .i64 (-1), .int .i64 again]] w (FluW W w wb room nb fr bl K H Us) := by
 obtain ⟨PO, hPO⟩ : ∃ PO : Ending → World → Prop, PO = FluW W w wb room nb fr bl K H Us := ⟨_, rfl⟩
 rw [← hPO]
 obtain ⟨w1, hw1⟩ : ∃ w1, w1 = w.alloc (.cells #[.int .i64 6, .int .i64 at_, pv, .int .u64 keep, .int .i64 (-1), .int .i64 again] 33) := ⟨_, rfl⟩
 have b1 : Below w.heap.size w w1 := by rw [hw1]; exact (Below.refl _ _).alloc (Nat.le_refl _) _
 have HA : Hid (Calls Tryz.prog 49 #[.pointer (some ⟨wb, 0, none⟩)] w1 fun e w3 => e = .returned (.bool true) ∧ PO (.returned (.bool true)) w3) := by
  refine Calls.mono (reopen_any (hWD.below b1)) ?_
  rintro e w3 ⟨rfl, r1, W', r2, r3⟩
  refine ⟨rfl, ?_⟩
  rw [hPO]
  exact ⟨rfl, (But.of_below b1 (X := W)).comp r1 (fun _ _ q => q), W', r2, fun k hk q => r3 k (Nat.lt_of_lt_of_le hk b1.size) q⟩
 have HW1 := hid hw1
 clear hWD hPO hw1 b1
 go_enter Tryz.func11, Tryz.ntmps11
 go_wp2_with fail
 rw [← HW1.out]
 refine Calls.mono HA.out ?_
 rintro e w3 ⟨rfl, hP⟩
 have FIN := hid hP
 clear hP HA
 go_wp2
 exact FIN.out
set_option maxRecDepth 100000 in
set_option maxHeartbeats 4000000 in
theorem act_again {W : Nat → Prop} {w : World} {wb room nb fr bl K lasted : Nat} {H : List Int} {Us : List (List Pm)} (hWD : WD W w wb room nb fr bl K lasted H Us) (hK : K + nb < 4611686018427387904) (at_ keep again : Int) (pv : Value) :
  Calls Tryz.prog 11 #[.pointer (some ⟨wb, 0, none⟩), .agg #[.int .i64 9, .int .i64 at_, pv, .int .u64 keep, .int .i64 (-1), .int .i64 again]] w (FluW W w wb room nb fr bl (K + nb) H Us) := by
 obtain ⟨PO, hPO⟩ : ∃ PO : Ending → World → Prop, PO = FluW W w wb room nb fr bl (K + nb) H Us := ⟨_, rfl⟩
 rw [← hPO]
 obtain ⟨w1, hw1⟩ : ∃ w1, w1 = w.alloc (.cells #[.int .i64 9, .int .i64 at_, pv, .int .u64 keep, .int .i64 (-1), .int .i64 again] 33) := ⟨_, rfl⟩
 have b1 : Below w.heap.size w w1 := by rw [hw1]; exact (Below.refl _ _).alloc (Nat.le_refl _) _
 have HA : Hid (Calls Tryz.prog 50 #[.pointer (some ⟨wb, 0, none⟩)] w1 fun e w3 => e = .returned (.bool true) ∧ PO (.returned (.bool true)) w3) := by
  refine Calls.mono (again_any (hWD.below b1) hK) ?_
  rintro e w3 ⟨rfl, r1, W', r2, r3⟩
  refine ⟨rfl, ?_⟩
  rw [hPO]
  exact ⟨rfl, (But.of_below b1 (X := W)).comp r1 (fun _ _ q => q), W', r2, fun k hk q => r3 k (Nat.lt_of_lt_of_le hk b1.size) q⟩
 have HW1 := hid hw1
 clear hWD hPO hw1 b1
 go_enter Tryz.func11, Tryz.ntmps11
 go_wp2_with fail
 rw [← HW1.out]
 refine Calls.mono HA.out ?_
 rintro e w3 ⟨rfl, hP⟩
 have FIN := hid hP
 clear hP HA
 go_wp2
 exact FIN.out
def ActW (W : Nat → Prop) (w : World) (wb room nb fr bl K : Nat) (H : List Int) (kd : Int) (e : Ending) (w' : World) : Prop :=
 e = .returned (.bool true) ∧ But W w w' ∧ ∃ W' lasted' Us', WD W' w' wb room nb fr bl (K + nb + 1) lasted' H Us' ∧ (∀ k, k < w.heap.size → W' k → W k) ∧ (kd = 3 ∨ kd = 4 → lasted' = Us'.length)
theorem act_any {W : Nat → Prop} {w : World} {wb room nb fr bl K lasted : Nat} {H : List Int} {Us : List (List Pm)} (hWD : WD W w wb room nb fr bl K lasted H Us) (hK : K + nb < 4611686018427387904) (kd at_ keep fz again : Int) (hfz : fz = -1 ∨ kd = 7) (a0 : Option Addr) (cp : Nat) (ps : List Pm) (hR : RdP W w a0 ps) (hN : ps.length ≤ 536870912) (hd : ∀ p ∈ ps, p.data.length ≤ 16777216 ∧ (p.ad = none → p.cap = 0)) :
  Calls Tryz.prog 11 #[.pointer (some ⟨wb, 0, none⟩), .agg #[.int .i64 kd, .int .i64 at_, .slice a0 ps.length cp, .int .u64 keep, .int .i64 fz, .int .i64 again]] w (ActW W w wb room nb fr bl K H kd) := by
 by_cases h7 : kd = 7
 ·subst h7
  refine Calls.mono (act_mirror hWD at_ keep fz again a0 ps.length cp) ?_
  rintro e w' ⟨rfl, q1, W', Us', q2, q3⟩
  exact ⟨rfl, q1, W', lasted, Us', q2.monoK (by omega), q3, fun q => by omega⟩
 have hf : fz = -1 := hfz.resolve_right h7
 subst hf
 have flu : ∀ {e w'} (K' : Nat), K' ≤ K + nb + 1 → FluW W w wb room nb fr bl K' H Us e w' → ActW W w wb room nb fr bl K H kd e w' := fun K' hK' ⟨q0, q1, W', q2, q3⟩ => ⟨q0, q1, W', Us.length, Us, q2.monoK hK', q3, fun _ => rfl⟩
 have st : ∀ {e w'} (K' : Nat), K' ≤ K + nb + 1 → ¬ (kd = 3 ∨ kd = 4) → StW W w wb room nb fr bl K' lasted H Us e w' → ActW W w wb room nb fr bl K H kd e w' := fun K' hK' hn ⟨q0, q1, W', q2, q3⟩ => ⟨q0, q1, W', lasted, Us, q2.monoK hK', q3, fun q => absurd q hn⟩
 by_cases h1 : kd = 1
 ·subst h1
  refine Calls.mono (act_append hWD at_ keep again a0 cp ps hR hN hd) ?_
  rintro e w' ⟨q0, q1, W', Us', q2, q3, _⟩
  exact ⟨q0, q1, W', lasted, Us', q2.monoK (by omega), q3, fun q => by omega⟩
 by_cases h2 : kd = 2
 ·subst h2
  exact Calls.mono (act_read hWD (by omega) at_ keep again _) (fun e w' q => st (K + 1) (by omega) (by omega) q)
 by_cases h3 : kd = 3
 ·subst h3
  exact Calls.mono (act_flush hWD at_ keep again _) (fun e w' q => flu K (by omega) q)
 by_cases h4 : kd = 4
 ·subst h4
  exact Calls.mono (act_check hWD at_ keep again _) (fun e w' q => flu K (by omega) q)
 by_cases h5 : kd = 5
 ·subst h5
  exact Calls.mono (act_seq hWD at_ keep again _) (fun e w' q => st K (by omega) (by omega) q)
 by_cases h6 : kd = 6
 ·subst h6
  exact Calls.mono (act_reopen hWD at_ keep again _) (fun e w' q => flu K (by omega) q)
 by_cases h9 : kd = 9
 ·subst h9
  exact Calls.mono (act_again hWD hK at_ keep again _) (fun e w' q => flu (K + nb) (by omega) q)
 exact Calls.mono (act_none hWD kd at_ keep again _ h1 h2 h3 h4 h5 h6 h7 h9) (fun e w' q => st K (by omega) (by omega) q)
end Go.Proofs.YtldlejpacgphmaaGreat
namespace Go.Proofs.YtldlejpacgphmaaGreat
open Go.RowKit
set_option maxRecDepth 100000 in
set_option maxHeartbeats 4000000 in
theorem lives_any (w : World) : Calls Tryz.prog 9 #[] w fun e w' => e = .returned (.bool true) ∧ Below w.heap.size w w' := by
 have hmk : (Instr.makeSlice 22 (.int .i64 20480) (.int .i64 20480)).run Tryz.prog w = .ok (.slice (some ⟨w.heap.size, 0, none⟩) 20480 20480) (w.alloc (.cells ((zeros 20480).map (Value.int .u8)).toArray 5)) := make_u8 20480 (by omega) w
 obtain ⟨w1, hw1⟩ : ∃ w1, w1 = w.alloc (.cells ((zeros 20480).map (Value.int .u8)).toArray 5) := ⟨_, rfl⟩
 rw [← hw1] at hmk
 have b1 : Below w.heap.size w w1 := by rw [hw1]; exact (Below.refl _ _).alloc (Nat.le_refl _) _
 have z1 : w1.heap.size = w.heap.size + 1 := by rw [hw1]; simp
 have hRd : Rd w1.heap.size w1 (some ⟨w.heap.size, 0, none⟩) (512 * 40) (zeros 20480) := by
  refine ⟨length_zeros _, isB_zeros _, .inr ⟨w.heap.size, 0, rfl, by omega, fun t ht => ?_⟩⟩
  have hblk : Blk .u8 5 w1 w.heap.size (zeros 20480) := by rw [hw1]; exact Array.getElem?_push_size
  rw [Nat.zero_add]
  exact hblk.cell t (by rw [length_zeros]; exact ht)
 have HB : Hid (Calls Tryz.prog 10 #[.agg #[.slice (some ⟨w.heap.size, 0, none⟩) 20480 20480, .int .i64 4, .int .i64 16, .int .i64 5]] w1 fun e w' => ∃ wb room W, e = .returned (.tuple #[.pointer (some ⟨wb, 0, none⟩), .bool true]) ∧ WD W w' wb room 40 4 16 0 0 (zeros 20480) [] ∧ (∀ k, W k → w1.heap.size ≤ k) ∧ Below w1.heap.size w1 w') := begun_ok (some ⟨w.heap.size, 0, none⟩) 20480 (zeros 20480) 40 4 16 5 (by omega) (by omega) (by omega) (by omega) (by simp) hRd
 have HZ := hid (And.intro b1 z1)
 clear hw1 b1 z1 hRd
 obtain ⟨lb0, hlb0⟩ : ∃ lb0, lb0 = w.heap.size := ⟨_, rfl⟩
 rw [← hlb0] at hmk HB HZ ⊢
 have HLB := hid hlb0
 clear hlb0
 have HBlk := hid Block_any
 -- two puts are appended
 have HAct : Hid (∀ (w2 w3 w4 w5 : World) (wb room g1 g2 : Nat) (W : Nat → Prop), WD W w2 wb room 40 4 16 0 0 (zeros 20480) [] → (∀ k, W k → lb0 ≤ k) → Below lb0 w w2 → lb0 ≤ w2.heap.size → Below w2.heap.size w2 w3 → w2.heap.size ≤ g1 → Blk .u8 5 w3 g1 (blkZ 1) → Below w3.heap.size w3 w4 → w3.heap.size ≤ g2 → Blk .u8 5 w4 g2 (blkZ 2) → w5 = w4.alloc (.cells #[.int .i64 1, .slice (some ⟨g1, 0, none⟩) 512 512, .int .i64 20, .slice (some ⟨g2, 0, none⟩) 512 512] 68) →
   Calls Tryz.prog 11 #[.pointer (some ⟨wb, 0, none⟩), .agg #[.int .i64 1, .int .i64 0, .slice (some ⟨w4.heap.size, 0, none⟩) 2 2, .int .u64 0, .int .i64 (-1), .int .i64 0]] w5 fun e w6 => e = .returned (.bool true) ∧ Calls Tryz.prog 11 #[.pointer (some ⟨wb, 0, none⟩), .agg #[.int .i64 3, .int .i64 0, .slice none 0 0, .int .u64 0, .int .i64 (-1), .int .i64 0]] w6 fun e w7 => e = .returned (.bool true) ∧ ∃ p, w7.cell? ⟨wb, 0, none⟩ = some (.pointer (some ⟨p, 0, none⟩)) ∧ Calls Tryz.prog 40 #[.pointer (some ⟨p, 0, none⟩)] w7 fun e w8 => ∃ ib ic g ta tc, e = .returned (.tuple #[.slice (some ⟨ib, 0, none⟩) 20480 ic, .int .i64 0]) ∧ w8.cell? ⟨wb, 3, none⟩ = some (.pointer (some ⟨g, 0, none⟩)) ∧ w8.cell? ⟨g, 3, none⟩ = some (.slice ta 1 tc) ∧ Calls Tryz.prog 13 #[.pointer (some ⟨wb, 0, none⟩), .slice (some ⟨ib, 0, none⟩) 20480 ic] w8 fun e w9 => e = .returned (.bool true) ∧ Below lb0 w w9) := by
  intro w2 w3 w4 w5 wb room g1 g2 W hWD hWl b2 hlb2 b3 hg1 k1 b4 hg2 k2 hw5
  have s3 := b3.size
  have s4 := b4.size
  have z5 : w5.heap.size = w4.heap.size + 1 := by rw [hw5]; simp
  have b5 : Below w4.heap.size w4 w5 := by rw [hw5]; exact (Below.refl _ _).alloc (Nat.le_refl _) _
  have B25 : Below w2.heap.size w2 w5 := (b3.trans (b4.mono s3)).trans (b5.mono (by omega))
  have hWD5 := hWD.below B25
  have hl1 : g1 < w3.heap.size := k1.lt
  have hl2 : g2 < w4.heap.size := k2.lt
  have k1' : Blk .u8 5 w5 g1 (blkZ 1) := (k1.of_block (b4.block g1 hl1)).of_block (b5.block g1 (by omega))
  have k2' : Blk .u8 5 w5 g2 (blkZ 2) := k2.of_block (b5.block g2 hl2)
  have hnW : ∀ k, w2.heap.size ≤ k → ¬ W k := fun k hk q => by have := hWD.lt q; omega
  obtain ⟨ps, hps⟩ : ∃ ps : List Pm, ps = [⟨1, some ⟨g1, 0, none⟩, 512, blkZ 1⟩, ⟨20, some ⟨g2, 0, none⟩, 512, blkZ 2⟩] := ⟨_, rfl⟩
  have hbl1 := length_blkZ 1
  have hbl2 := length_blkZ 2
  have hrd : RdP W w5 (some ⟨w4.heap.size, 0, none⟩) ps := by
   rw [hps]
   refine ⟨fun p hp => ?_, .inr ⟨w4.heap.size, 0, rfl, by omega, hnW _ (by omega), fun t p hp => ?_⟩⟩
   ·simp only [List.mem_cons, List.not_mem_nil, or_false] at hp
    rcases hp with rfl | rfl
    ·exact RdN.of_blk k1' (isB_blkZ 1) (hnW g1 hg1)
    ·exact RdN.of_blk k2' (isB_blkZ 2) (hnW g2 (by omega))
   ·have hcell : ∀ (t : Nat) (v : Value), #[Value.int .i64 1, .slice (some ⟨g1, 0, none⟩) 512 512, .int .i64 20, .slice (some ⟨g2, 0, none⟩) 512 512][t]? = some v → w5.cell? ⟨w4.heap.size, t, none⟩ = some v := fun t v hv => by rw [hw5]; exact cell_new rfl t _ hv
    rcases t with _ | _ | t
    ·simp at hp
     subst hp
     rw [hbl1]
     exact ⟨hcell 0 _ rfl, hcell 1 _ rfl⟩
    ·simp at hp
     subst hp
     rw [hbl2]
     exact ⟨hcell 2 _ rfl, hcell 3 _ rfl⟩
    ·simp at hp
  have hfit : fitsC 40 4 16 0 ps = 0 := by
   have e1 : putC 40 4 16 1 (blkZ 1).length = 0 := by rw [hbl1]; decide
   have e2 : putC 40 4 16 20 (blkZ 2).length = 0 := by rw [hbl2]; decide
   have hp0 : putsC 40 4 16 ps = 0 := putsC_zero (fun p hp => by
    rw [hps] at hp
    simp only [List.mem_cons, List.not_mem_nil, or_false] at hp
    rcases hp with rfl | rfl
    ·exact e1
    ·exact e2)
   have hdf : diffs ps ≤ 2 := by
    rw [← standP_count]
    have := standP_len ps
    rw [hps] at this ⊢
    exact this
   unfold fitsC
   rw [hp0, if_neg (by decide), if_neg (by omega), if_neg (by omega)]
  have hpl : ps.length = 2 := by rw [hps]; rfl
  have hap := act_append hWD5 0 0 0 (some ⟨w4.heap.size, 0, none⟩) 2 ps hrd (by omega) (fun p hp => by
   rw [hps] at hp
   simp only [List.mem_cons, List.not_mem_nil, or_false] at hp
   rcases hp with rfl | rfl
   ·exact ⟨by simp only; omega, by simp⟩
   ·exact ⟨by simp only; omega, by simp⟩)
  rw [hpl] at hap
  refine Calls.mono hap ?_
  rintro e w6 ⟨rfl, b6, W6, Us6, hWD6, hW6, hcase⟩
  obtain ⟨qs, rfl, hsay⟩ : ∃ qs, Us6 = [] ++ [qs] ∧ qs.map Pm.say = ps.map Pm.say := by
   rcases hcase with ⟨_, h⟩ | ⟨h, _⟩
   ·exact h
   ·exact absurd hfit h
  refine ⟨rfl, Calls.mono (act_flush hWD6 0 0 0 (.slice none 0 0)) ?_⟩
  rintro e w7 ⟨rfl, b7, W7, hWD7, hW7⟩
  have hb57 : Below lb0 w w7 := by
   have hlb := HLB.out
   rw [hlb] at b2 hlb2
   have c1 : But (fun k => lb0 ≤ k) w w5 := But.of_below (b2.trans (B25.mono hlb2))
   have s5 := c1.size
   have hl6 : ∀ k, k < w5.heap.size → W6 k → lb0 ≤ k := fun k hk q => hWl k (hW6 k hk q)
   have c2 := c1.comp b6 (fun k _ q => hWl k q)
   have c3 := c2.comp b7 (fun k hk q => hl6 k (by omega) q)
   exact c3.below (by omega) (fun k hk q => by omega)
  obtain ⟨Z, p, c, j, g, tried, tl, td, hb, hc, ta, tc, vs, Ls, n1, cs, d, s, h, hOn, hW⟩ := hWD7
  obtain ⟨hD, _, _⟩ := h.jq.dk
  refine ⟨rfl, p, h.wd.cell 0, Calls.mono (Image_any hD) ?_⟩
  rintro e w8 ⟨ib, ic, rfl, hib, hown, b8⟩
  have hx8 := h.below b8
  have hil : d.img.length = 512 * 40 := h.jq.fits.1.1
  have hisb : Pl.isB d.img := h.jq.fits.1.2.1
  refine ⟨ib, ic, g, ta, tc, by rw [hil], hx8.wd.cell 3, hx8.lg.lg.c3, ?_⟩
  rw [hil] at hown
  refine Calls.mono (probe_any hx8.wd hx8.lg hx8.r1 hx8.r2 hown hisb (hOn.cut h.lo h.fit h.nb) (fun x _ => .inl rfl) (Int.le_refl _) h.lo h.fit h.nb (by simp)) ?_
  rintro e w9 ⟨rfl, b9⟩
  have hs57 := hb57.size
  have hs8 := b8.size
  have hlb := HLB.out
  exact ⟨rfl, (hb57.trans (b8.mono (by omega))).trans (b9.mono (by omega))⟩
 go_enter Tryz.func9, Tryz.ntmps9
 go_wp2_with fail
 refine Calls.mono HB.out ?_
 rintro e w2 ⟨wb, room, W, rfl, hWD, hWl, b2⟩
 have HK := hid (And.intro hWD (And.intro hWl b2))
 have H1 := hid (HBlk.out 1 w2)
 clear hWD hWl b2 HB hmk
 go_wp2_with fail
 refine Calls.mono H1.out ?_
 rintro e w3 ⟨g1, rfl, hg1, k1, b3⟩
 have H2 := hid (HBlk.out 2 w3)
 have HK1 := hid (And.intro hg1 (And.intro k1 b3))
 clear H1 hg1 k1 b3 HBlk
 go_wp2_with fail
 refine Calls.mono H2.out ?_
 rintro e w4 ⟨g2, rfl, hg2, k2, b4⟩
 obtain ⟨w5, hw5⟩ : ∃ w5, w5 = w4.alloc (.cells #[.int .i64 1, .slice (some ⟨g1, 0, none⟩) 512 512, .int .i64 20, .slice (some ⟨g2, 0, none⟩) 512 512] 68) := ⟨_, rfl⟩
 have H3 : Hid _ := HAct.out w2 w3 w4 w5 wb room g1 g2 W HK.out.1 (fun k q => by have := HK.out.2.1 k q; have := HZ.out.2; omega) ((HZ.out.1).trans (HK.out.2.2.mono (by have := HZ.out.2; omega))) (by have := HK.out.2.2.size; have := HZ.out.2; omega) HK1.out.2.2 HK1.out.1 HK1.out.2.1 b4 hg2 k2 hw5
 have HW5 := hid hw5
 clear hw5 H2 hg2 k2 b4 HAct HK HK1 HZ
 go_wp2_with fail
 rw [← HW5.out]
 refine Calls.mono H3.out ?_
 rintro e w6 ⟨rfl, h6⟩
 have H6 := hid h6
 clear h6 H3 HW5
 go_wp2_with fail
 refine Calls.mono H6.out ?_
 rintro e w7 ⟨rfl, p, k0, h7⟩
 have H7 := hid h7
 clear h7 H6
 go_wp2_with fail
 refine Calls.mono H7.out ?_
 rintro e w8 ⟨ib, ic, g, ta, tc, rfl, k3, c3, h8⟩
 have H8 := hid h8
 have HN := hid (num_any 0 w8)
 clear h8 H7 k0
 go_wp2_with fail
 refine Calls.mono HN.out ?_
 rintro e w9 ⟨rfl, hw9⟩
 rw [hw9]
 clear hw9 HN
 go_wp2_with fail
 refine Calls.mono H8.out ?_
 rintro e w9 ⟨rfl, b9⟩
 have FIN := hid b9
 clear b9 H8
 go_wp2
 go_ret
 exact ⟨rfl, FIN.out⟩
end Go.Proofs.YtldlejpacgphmaaGreat
