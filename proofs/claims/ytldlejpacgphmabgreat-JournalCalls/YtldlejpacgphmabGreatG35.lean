import Derived.Test.YtldlejpacgphmabGreatG34
import Derived.Test.YtldlejpacgphmabGreatG33
namespace Go.Proofs.YtldlejpacgphmabGreat
open Go.RowKit Go.Deep
variable {X0 : Nat → Prop}
set_option maxRecDepth 100000 in
set_option maxHeartbeats 4000000 in
theorem act_mirror {W : Nat → Prop} {w : World} {wb room nb fr bl K lasted : Nat} {H : List Int} {Us : List (List Pm)} (hWD : WD X0 W w wb room nb fr bl K lasted H Us) (at_ keep fz again : Int) (a0 : Option Addr) (N cp : Nat) :
  Calls Tryz.prog 11 #[.pointer (some ⟨wb, 0, none⟩), .agg #[.int .i64 7, .int .i64 at_, .slice a0 N cp, .int .u64 keep, .int .i64 fz, .int .i64 again]] w fun e w' => e = .returned (.bool true) ∧ But W w w' ∧ ∃ W' Us', WD X0 W' w' wb room nb fr bl K lasted H Us' ∧ (∀ k, k < w.heap.size → W' k → W k) := by
 obtain ⟨PO, hPO⟩ : ∃ PO : Ending → World → Prop, PO = fun e w' => e = .returned (.bool true) ∧ But W w w' ∧ ∃ W' Us', WD X0 W' w' wb room nb fr bl K lasted H Us' ∧ (∀ k, k < w.heap.size → W' k → W k) := ⟨_, rfl⟩
 rw [← hPO]
 obtain ⟨w1, hw1⟩ : ∃ w1, w1 = w.alloc (.cells #[.int .i64 7, .int .i64 at_, .slice a0 N cp, .int .u64 keep, .int .i64 fz, .int .i64 again] 38) := ⟨_, rfl⟩
 have b1 : Below w.heap.size w w1 := by rw [hw1]; exact (Below.refl _ _).alloc (Nat.le_refl _) _
 have HA : Hid (Calls Tryz.prog 45 #[.pointer (some ⟨wb, 0, none⟩), .agg #[.int .i64 7, .int .i64 at_, .slice a0 N cp, .int .u64 keep, .int .i64 fz, .int .i64 again]] w1 fun e w2 => ∃ gp, e = .returned (.slice (some ⟨gp, 0, none⟩) 1 1) ∧ Calls Tryz.prog 44 #[.pointer (some ⟨wb, 0, none⟩), .slice (some ⟨gp, 0, none⟩) 1 1] w2 fun e w3 => e = .returned (.bool true) ∧ PO (.returned (.bool true)) w3) := by
  refine Calls.mono (mirror_any (hWD.below b1) 7 at_ keep fz again (.slice a0 N cp)) ?_
  rintro e w2 ⟨gp, q, rfl, q1, q2, q3, b2⟩
  have b12 := b1.trans (b2.mono b1.size)
  refine ⟨gp, rfl, Calls.mono (append_any (hWD.below b12) (some ⟨gp, 0, none⟩) 1 [q] q1 (by simp) (fun p hp => by simp only [List.mem_singleton] at hp; subst hp; exact ⟨by omega, q3⟩)) ?_⟩
  rintro e w3 ⟨rfl, r1, W', Us', r2, r3, _⟩
  refine ⟨rfl, ?_⟩
  rw [hPO]
  exact ⟨rfl, (But.of_below b12 (X := W)).comp r1 (fun _ _ q => q), W', Us', r2, fun k hk q => r3 k (Nat.lt_of_lt_of_le hk b12.size) q⟩
 have HW1 := hid hw1
 clear hWD hPO hw1 b1
 by_cases hz : 0 ≤ fz
 ·go_enter Tryz.func11, Tryz.ntmps11
  go_wp2_with fail
  rw [← HW1.out]
  refine Calls.mono HA.out ?_
  rintro e w2 ⟨gp, rfl, hP⟩
  have HP := hid hP
  clear hP HA
  go_wp2_with fail
  refine Calls.mono HP.out ?_
  rintro e w3 ⟨rfl, hP⟩
  have FIN := hid hP
  clear hP HP
  go_wp2
  exact FIN.out
 ·go_enter Tryz.func11, Tryz.ntmps11
  go_wp2_with fail
  rw [← HW1.out]
  refine Calls.mono HA.out ?_
  rintro e w2 ⟨gp, rfl, hP⟩
  have HP := hid hP
  clear hP HA
  go_wp2_with fail
  refine Calls.mono HP.out ?_
  rintro e w3 ⟨rfl, hP⟩
  have FIN := hid hP
  clear hP HP
  go_wp2
  exact FIN.out
set_option maxRecDepth 100000 in
set_option maxHeartbeats 4000000 in
theorem act_reopen {W : Nat → Prop} {w : World} {wb room nb fr bl K lasted : Nat} {H : List Int} {Us : List (List Pm)} (hWD : WD X0 W w wb room nb fr bl K lasted H Us) (at_ keep again : Int) (pv : Value) :
  Calls Tryz.prog 11 #[.pointer (some ⟨wb, 0, none⟩), .agg #[.int .i64 6, .int .i64 at_, pv, .int .u64 keep, .int .i64 (-1), .int .i64 again]] w (FluW X0 W w wb room nb fr bl K H Us) := by
 obtain ⟨PO, hPO⟩ : ∃ PO : Ending → World → Prop, PO = FluW X0 W w wb room nb fr bl K H Us := ⟨_, rfl⟩
 rw [← hPO]
 obtain ⟨w1, hw1⟩ : ∃ w1, w1 = w.alloc (.cells #[.int .i64 6, .int .i64 at_, pv, .int .u64 keep, .int .i64 (-1), .int .i64 again] 38) := ⟨_, rfl⟩
 have b1 : Below w.heap.size w w1 := by rw [hw1]; exact (Below.refl _ _).alloc (Nat.le_refl _) _
 have HA : Hid (Calls Tryz.prog 50 #[.pointer (some ⟨wb, 0, none⟩)] w1 fun e w3 => e = .returned (.bool true) ∧ PO (.returned (.bool true)) w3) := by
  refine Calls.mono (reopen_any (hWD.below b1)) ?_
  rintro e w3 ⟨rfl, r1, W', r2, r3⟩
  refine ⟨rfl, ?_⟩
  rw [hPO]
  exact ⟨rfl, (But.of_below b1 (X := W)).comp r1 (fun _ _ q => q), W', r2, fun k hk q => r3 k (Nat.lt_of_lt_of_le hk b1.size) q⟩
 have HW1 := hid hw1
 clear hWD hPO hw1 b1
 go_enter Tryz.func11, Tryz.ntmps11
 go_wp2_with fail
 rw [← HW1.out]
 refine Calls.mono HA.out ?_
 rintro e w3 ⟨rfl, hP⟩
 have FIN := hid hP
 clear hP HA
 go_wp2
 exact FIN.out
set_option maxRecDepth 100000 in
set_option maxHeartbeats 4000000 in
theorem act_again {W : Nat → Prop} {w : World} {wb room nb fr bl K lasted : Nat} {H : List Int} {Us : List (List Pm)} (hWD : WD X0 W w wb room nb fr bl K lasted H Us) (hK : K + nb < 4611686018427387904) (at_ keep again : Int) (pv : Value) :
  Calls Tryz.prog 11 #[.pointer (some ⟨wb, 0, none⟩), .agg #[.int .i64 9, .int .i64 at_, pv, .int .u64 keep, .int .i64 (-1), .int .i64 again]] w (FluW X0 W w wb room nb fr bl (K + nb) H Us) := by
 obtain ⟨PO, hPO⟩ : ∃ PO : Ending → World → Prop, PO = FluW X0 W w wb room nb fr bl (K + nb) H Us := ⟨_, rfl⟩
 rw [← hPO]
 obtain ⟨w1, hw1⟩ : ∃ w1, w1 = w.alloc (.cells #[.int .i64 9, .int .i64 at_, pv, .int .u64 keep, .int .i64 (-1), .int .i64 again] 38) := ⟨_, rfl⟩
 have b1 : Below w.heap.size w w1 := by rw [hw1]; exact (Below.refl _ _).alloc (Nat.le_refl _) _
 have HA : Hid (Calls Tryz.prog 51 #[.pointer (some ⟨wb, 0, none⟩)] w1 fun e w3 => e = .returned (.bool true) ∧ PO (.returned (.bool true)) w3) := by
  refine Calls.mono (again_any (hWD.below b1) hK) ?_
  rintro e w3 ⟨rfl, r1, W', r2, r3⟩
  refine ⟨rfl, ?_⟩
  rw [hPO]
  exact ⟨rfl, (But.of_below b1 (X := W)).comp r1 (fun _ _ q => q), W', r2, fun k hk q => r3 k (Nat.lt_of_lt_of_le hk b1.size) q⟩
 have HW1 := hid hw1
 clear hWD hPO hw1 b1
 go_enter Tryz.func11, Tryz.ntmps11
 go_wp2_with fail
 rw [← HW1.out]
 refine Calls.mono HA.out ?_
 rintro e w3 ⟨rfl, hP⟩
 have FIN := hid hP
 clear hP HA
 go_wp2
 exact FIN.out
def ActW (X0 W : Nat → Prop) (w : World) (wb room nb fr bl K : Nat) (H : List Int) (kd : Int) (e : Ending) (w' : World) : Prop :=
 e = .returned (.bool true) ∧ But W w w' ∧ ∃ W' lasted' Us', WD X0 W' w' wb room nb fr bl (K + nb + 1) lasted' H Us' ∧ (∀ k, k < w.heap.size → W' k → W k) ∧ (kd = 3 ∨ kd = 4 → lasted' = Us'.length)
theorem act_any {W : Nat → Prop} {w : World} {wb room nb fr bl K lasted : Nat} {H : List Int} {Us : List (List Pm)} (hWD : WD X0 W w wb room nb fr bl K lasted H Us) (hK : K + nb < 4611686018427387904) (kd at_ keep fz again : Int) (hfz : fz = -1 ∨ kd = 7) (a0 : Option Addr) (cp : Nat) (ps : List Pm) (hR : RdP W w a0 ps) (hN : ps.length ≤ 536870912) (hd : ∀ p ∈ ps, p.data.length ≤ 16777216 ∧ (p.ad = none → p.cap = 0)) :
  Calls Tryz.prog 11 #[.pointer (some ⟨wb, 0, none⟩), .agg #[.int .i64 kd, .int .i64 at_, .slice a0 ps.length cp, .int .u64 keep, .int .i64 fz, .int .i64 again]] w (ActW X0 W w wb room nb fr bl K H kd) := by
 by_cases h7 : kd = 7
 ·subst h7
  refine Calls.mono (act_mirror hWD at_ keep fz again a0 ps.length cp) ?_
  rintro e w' ⟨rfl, q1, W', Us', q2, q3⟩
  exact ⟨rfl, q1, W', lasted, Us', q2.monoK (by omega), q3, fun q => by omega⟩
 have hf : fz = -1 := hfz.resolve_right h7
 subst hf
 have flu : ∀ {e w'} (K' : Nat), K' ≤ K + nb + 1 → FluW X0 W w wb room nb fr bl K' H Us e w' → ActW X0 W w wb room nb fr bl K H kd e w' := fun K' hK' ⟨q0, q1, W', q2, q3⟩ => ⟨q0, q1, W', Us.length, Us, q2.monoK hK', q3, fun _ => rfl⟩
 have st : ∀ {e w'} (K' : Nat), K' ≤ K + nb + 1 → ¬ (kd = 3 ∨ kd = 4) → StW X0 W w wb room nb fr bl K' lasted H Us e w' → ActW X0 W w wb room nb fr bl K H kd e w' := fun K' hK' hn ⟨q0, q1, W', q2, q3⟩ => ⟨q0, q1, W', lasted, Us, q2.monoK hK', q3, fun q => absurd q hn⟩
 by_cases h1 : kd = 1
 ·subst h1
  refine Calls.mono (act_append hWD at_ keep again a0 cp ps hR hN hd) ?_
  rintro e w' ⟨q0, q1, W', Us', q2, q3, _⟩
  exact ⟨q0, q1, W', lasted, Us', q2.monoK (by omega), q3, fun q => by omega⟩
 by_cases h2 : kd = 2
 ·subst h2
  exact Calls.mono (act_read hWD (by omega) at_ keep again _) (fun e w' q => st (K + 1) (by omega) (by omega) q)
 by_cases h3 : kd = 3
 ·subst h3
  exact Calls.mono (act_flush hWD at_ keep again _) (fun e w' q => flu K (by omega) q)
 by_cases h4 : kd = 4
 ·subst h4
  exact Calls.mono (act_check hWD at_ keep again _) (fun e w' q => flu K (by omega) q)
 by_cases h5 : kd = 5
 ·subst h5
  exact Calls.mono (act_seq hWD at_ keep again _) (fun e w' q => st K (by omega) (by omega) q)
 by_cases h6 : kd = 6
 ·subst h6
  exact Calls.mono (act_reopen hWD at_ keep again _) (fun e w' q => flu K (by omega) q)
 by_cases h9 : kd = 9
 ·subst h9
  exact Calls.mono (act_again hWD hK at_ keep again _) (fun e w' q => flu (K + nb) (by omega) q)
 exact Calls.mono (act_none hWD kd at_ keep again _ h1 h2 h3 h4 h5 h6 h7 h9) (fun e w' q => st K (by omega) (by omega) q)
open Go.RowKit
set_option maxRecDepth 100000 in
set_option maxHeartbeats 4000000 in
theorem lives_any (w : World) : Calls Tryz.prog 9 #[] w fun e w' => e = .returned (.bool true) ∧ Below w.heap.size w w' := by
 have hmk : (Instr.makeSlice 22 (.int .i64 20480) (.int .i64 20480)).run Tryz.prog w = .ok (.slice (some ⟨w.heap.size, 0, none⟩) 20480 20480) (w.alloc (.cells ((zeros 20480).map (Value.int .u8)).toArray 5)) := make_u8 20480 (by omega) w
 obtain ⟨w1, hw1⟩ : ∃ w1, w1 = w.alloc (.cells ((zeros 20480).map (Value.int .u8)).toArray 5) := ⟨_, rfl⟩
 rw [← hw1] at hmk
 have b1 : Below w.heap.size w w1 := by rw [hw1]; exact (Below.refl _ _).alloc (Nat.le_refl _) _
 have z1 : w1.heap.size = w.heap.size + 1 := by rw [hw1]; simp
 have hRd : Rd w1.heap.size w1 (some ⟨w.heap.size, 0, none⟩) (512 * 40) (zeros 20480) := by
  refine ⟨length_zeros _, isB_zeros _, .inr ⟨w.heap.size, 0, rfl, by omega, fun t ht => ?_⟩⟩
  have hblk : Blk .u8 5 w1 w.heap.size (zeros 20480) := by rw [hw1]; exact Array.getElem?_push_size
  rw [Nat.zero_add]
  exact hblk.cell t (by rw [length_zeros]; exact ht)
 have HB : Hid (Calls Tryz.prog 10 #[.agg #[.slice (some ⟨w.heap.size, 0, none⟩) 20480 20480, .int .i64 4, .int .i64 16, .int .i64 5]] w1 fun e w' => ∃ wb room W, e = .returned (.tuple #[.pointer (some ⟨wb, 0, none⟩), .bool true]) ∧ WD (fun _ => False) W w' wb room 40 4 16 0 0 (zeros 20480) [] ∧ (∀ k, W k → w1.heap.size ≤ k) ∧ Below w1.heap.size w1 w') := begun_ok (some ⟨w.heap.size, 0, none⟩) 20480 (zeros 20480) 40 4 16 5 (by omega) (by omega) (by omega) (by omega) (by simp) hRd (fun _ q => q.elim)
 have HZ := hid (And.intro b1 z1)
 clear hw1 b1 z1 hRd
 obtain ⟨lb0, hlb0⟩ : ∃ lb0, lb0 = w.heap.size := ⟨_, rfl⟩
 rw [← hlb0] at hmk HB HZ ⊢
 have HLB := hid hlb0
 clear hlb0
 have HBlk := hid Block_any
 -- two puts are appended
 have HAct : Hid (∀ (w2 w3 w4 w5 : World) (wb room g1 g2 : Nat) (W : Nat → Prop), WD (fun _ => False) W w2 wb room 40 4 16 0 0 (zeros 20480) [] → (∀ k, W k → lb0 ≤ k) → Below lb0 w w2 → lb0 ≤ w2.heap.size → Below w2.heap.size w2 w3 → w2.heap.size ≤ g1 → Blk .u8 5 w3 g1 (blkZ 1) → Below w3.heap.size w3 w4 → w3.heap.size ≤ g2 → Blk .u8 5 w4 g2 (blkZ 2) → w5 = w4.alloc (.cells #[.int .i64 1, .slice (some ⟨g1, 0, none⟩) 512 512, .int .i64 20, .slice (some ⟨g2, 0, none⟩) 512 512] 97) →
   Calls Tryz.prog 11 #[.pointer (some ⟨wb, 0, none⟩), .agg #[.int .i64 1, .int .i64 0, .slice (some ⟨w4.heap.size, 0, none⟩) 2 2, .int .u64 0, .int .i64 (-1), .int .i64 0]] w5 fun e w6 => e = .returned (.bool true) ∧ Calls Tryz.prog 11 #[.pointer (some ⟨wb, 0, none⟩), .agg #[.int .i64 3, .int .i64 0, .slice none 0 0, .int .u64 0, .int .i64 (-1), .int .i64 0]] w6 fun e w7 => e = .returned (.bool true) ∧ ∃ p, w7.cell? ⟨wb, 0, none⟩ = some (.pointer (some ⟨p, 0, none⟩)) ∧ Calls Tryz.prog 36 #[.pointer (some ⟨p, 0, none⟩)] w7 fun e w8 => ∃ ib ic g ta tc, e = .returned (.tuple #[.slice (some ⟨ib, 0, none⟩) 20480 ic, .int .i64 0]) ∧ w8.cell? ⟨wb, 3, none⟩ = some (.pointer (some ⟨g, 0, none⟩)) ∧ w8.cell? ⟨g, 3, none⟩ = some (.slice ta 1 tc) ∧ Calls Tryz.prog 37 #[.pointer (some ⟨wb, 0, none⟩), .slice (some ⟨ib, 0, none⟩) 20480 ic] w8 fun e w9 => e = .returned (.bool true) ∧ Below lb0 w w9) := by
  intro w2 w3 w4 w5 wb room g1 g2 W hWD hWl b2 hlb2 b3 hg1 k1 b4 hg2 k2 hw5
  have s3 := b3.size
  have s4 := b4.size
  have z5 : w5.heap.size = w4.heap.size + 1 := by rw [hw5]; simp
  have b5 : Below w4.heap.size w4 w5 := by rw [hw5]; exact (Below.refl _ _).alloc (Nat.le_refl _) _
  have B25 : Below w2.heap.size w2 w5 := (b3.trans (b4.mono s3)).trans (b5.mono (by omega))
  have hWD5 := hWD.below B25
  have hl1 : g1 < w3.heap.size := k1.lt
  have hl2 : g2 < w4.heap.size := k2.lt
  have k1' : Blk .u8 5 w5 g1 (blkZ 1) := (k1.of_block (b4.block g1 hl1)).of_block (b5.block g1 (by omega))
  have k2' : Blk .u8 5 w5 g2 (blkZ 2) := k2.of_block (b5.block g2 hl2)
  have hnW : ∀ k, w2.heap.size ≤ k → ¬ W k := fun k hk q => by have := hWD.lt q; omega
  obtain ⟨ps, hps⟩ : ∃ ps : List Pm, ps = [⟨1, some ⟨g1, 0, none⟩, 512, blkZ 1⟩, ⟨20, some ⟨g2, 0, none⟩, 512, blkZ 2⟩] := ⟨_, rfl⟩
  have hbl1 := length_blkZ 1
  have hbl2 := length_blkZ 2
  have hrd : RdP W w5 (some ⟨w4.heap.size, 0, none⟩) ps := by
   rw [hps]
   refine ⟨fun p hp => ?_, .inr ⟨w4.heap.size, 0, rfl, by omega, hnW _ (by omega), fun t p hp => ?_⟩⟩
   ·simp only [List.mem_cons, List.not_mem_nil, or_false] at hp
    rcases hp with rfl | rfl
    ·exact RdN.of_blk k1' (isB_blkZ 1) (hnW g1 hg1)
    ·exact RdN.of_blk k2' (isB_blkZ 2) (hnW g2 (by omega))
   ·have hcell : ∀ (t : Nat) (v : Value), #[Value.int .i64 1, .slice (some ⟨g1, 0, none⟩) 512 512, .int .i64 20, .slice (some ⟨g2, 0, none⟩) 512 512][t]? = some v → w5.cell? ⟨w4.heap.size, t, none⟩ = some v := fun t v hv => by rw [hw5]; exact cell_new rfl t _ hv
    rcases t with _ | _ | t
    ·simp at hp
     subst hp
     rw [hbl1]
     exact ⟨hcell 0 _ rfl, hcell 1 _ rfl⟩
    ·simp at hp
     subst hp
     rw [hbl2]
     exact ⟨hcell 2 _ rfl, hcell 3 _ rfl⟩
    ·simp at hp
  have hfit : fitsC 40 4 16 0 ps = 0 := by
   have e1 : putC 40 4 16 1 (blkZ 1).length = 0 := by rw [hbl1]; decide
   have e2 : putC 40 4 16 20 (blkZ 2).length = 0 := by rw [hbl2]; decide
   have hp0 : putsC 40 4 16 ps = 0 := putsC_zero (fun p hp => by
    rw [hps] at hp
    simp only [List.mem_cons, List.not_mem_nil, or_false] at hp
    rcases hp with rfl | rfl
    ·exact e1
    ·exact e2)
   have hdf : diffs ps ≤ 2 := by
    rw [← standP_count]
    have := standP_len ps
    rw [hps] at this ⊢
    exact this
   unfold fitsC
   rw [hp0, if_neg (by decide), if_neg (by omega), if_neg (by omega)]
  have hpl : ps.length = 2 := by rw [hps]; rfl
  have hap := act_append hWD5 0 0 0 (some ⟨w4.heap.size, 0, none⟩) 2 ps hrd (by omega) (fun p hp => by
   rw [hps] at hp
   simp only [List.mem_cons, List.not_mem_nil, or_false] at hp
   rcases hp with rfl | rfl
   ·exact ⟨by simp only; omega, by simp⟩
   ·exact ⟨by simp only; omega, by simp⟩)
  rw [hpl] at hap
  refine Calls.mono hap ?_
  rintro e w6 ⟨rfl, b6, W6, Us6, hWD6, hW6, hcase⟩
  obtain ⟨qs, rfl, hsay⟩ : ∃ qs, Us6 = [] ++ [qs] ∧ qs.map Pm.say = ps.map Pm.say := by
   rcases hcase with ⟨_, h⟩ | ⟨h, _⟩
   ·exact h
   ·exact absurd hfit h
  refine ⟨rfl, Calls.mono (act_flush hWD6 0 0 0 (.slice none 0 0)) ?_⟩
  rintro e w7 ⟨rfl, b7, W7, hWD7, hW7⟩
  have hb57 : Below lb0 w w7 := by
   have hlb := HLB.out
   rw [hlb] at b2 hlb2
   have c1 : But (fun k => lb0 ≤ k) w w5 := But.of_below (b2.trans (B25.mono hlb2))
   have s5 := c1.size
   have hl6 : ∀ k, k < w5.heap.size → W6 k → lb0 ≤ k := fun k hk q => hWl k (hW6 k hk q)
   have c2 := c1.comp b6 (fun k _ q => hWl k q)
   have c3 := c2.comp b7 (fun k hk q => hl6 k (by omega) q)
   exact c3.below (by omega) (fun k hk q => by omega)
  obtain ⟨Z, p, c, j, g, tried, tl, td, hb, hc, ta, tc, vs, Ls, n1, cs, d, s, h, hOn, hW⟩ := hWD7
  obtain ⟨hD, _, _⟩ := h.jq.dk
  refine ⟨rfl, p, h.wd.cell 0, Calls.mono (Image_any hD) ?_⟩
  rintro e w8 ⟨ib, ic, rfl, hib, hown, b8⟩
  have hx8 := h.below b8
  have hil : d.img.length = 512 * 40 := h.jq.fits.1.1
  have hisb : Pl.isB d.img := h.jq.fits.1.2.1
  refine ⟨ib, ic, g, ta, tc, by rw [hil], hx8.wd.cell 3, hx8.lg.lg.c3, ?_⟩
  rw [hil] at hown
  refine Calls.mono (probe_any hx8.wd hx8.lg hx8.r1 hx8.r2 hown hisb (hOn.cut h.lo h.fit h.nb) (fun x _ => .inl rfl) (Int.le_refl _) h.lo h.fit h.nb (by simp)) ?_
  rintro e w9 ⟨rfl, b9⟩
  have hs57 := hb57.size
  have hs8 := b8.size
  have hlb := HLB.out
  exact ⟨rfl, (hb57.trans (b8.mono (by omega))).trans (b9.mono (by omega))⟩
 go_enter Tryz.func9, Tryz.ntmps9
 go_wp2_with fail
 refine Calls.mono HB.out ?_
 rintro e w2 ⟨wb, room, W, rfl, hWD, hWl, b2⟩
 have HK := hid (And.intro hWD (And.intro hWl b2))
 have H1 := hid (HBlk.out 1 w2)
 clear hWD hWl b2 HB hmk
 go_wp2_with fail
 refine Calls.mono H1.out ?_
 rintro e w3 ⟨g1, rfl, hg1, k1, b3⟩
 have H2 := hid (HBlk.out 2 w3)
 have HK1 := hid (And.intro hg1 (And.intro k1 b3))
 clear H1 hg1 k1 b3 HBlk
 go_wp2_with fail
 refine Calls.mono H2.out ?_
 rintro e w4 ⟨g2, rfl, hg2, k2, b4⟩
 obtain ⟨w5, hw5⟩ : ∃ w5, w5 = w4.alloc (.cells #[.int .i64 1, .slice (some ⟨g1, 0, none⟩) 512 512, .int .i64 20, .slice (some ⟨g2, 0, none⟩) 512 512] 97) := ⟨_, rfl⟩
 have H3 : Hid _ := HAct.out w2 w3 w4 w5 wb room g1 g2 W HK.out.1 (fun k q => by have := HK.out.2.1 k q; have := HZ.out.2; omega) ((HZ.out.1).trans (HK.out.2.2.mono (by have := HZ.out.2; omega))) (by have := HK.out.2.2.size; have := HZ.out.2; omega) HK1.out.2.2 HK1.out.1 HK1.out.2.1 b4 hg2 k2 hw5
 have HW5 := hid hw5
 clear hw5 H2 hg2 k2 b4 HAct HK HK1 HZ
 go_wp2_with fail
 rw [← HW5.out]
 refine Calls.mono H3.out ?_
 rintro e w6 ⟨rfl, h6⟩
 have H6 := hid h6
 clear h6 H3 HW5
 go_wp2_with fail
 refine Calls.mono H6.out ?_
 rintro e w7 ⟨rfl, p, k0, h7⟩
 have H7 := hid h7
 clear h7 H6
 go_wp2_with fail
 refine Calls.mono H7.out ?_
 rintro e w8 ⟨ib, ic, g, ta, tc, rfl, k3, c3, h8⟩
 have H8 := hid h8
 have HN := hid (num_any 0 w8)
 clear h8 H7 k0
 go_wp2_with fail
 refine Calls.mono HN.out ?_
 rintro e w9 ⟨rfl, hw9⟩
 rw [hw9]
 clear hw9 HN
 go_wp2_with fail
 refine Calls.mono H8.out ?_
 rintro e w9 ⟨rfl, b9⟩
 have FIN := hid b9
 clear b9 H8
 go_wp2
 go_ret
 exact ⟨rfl, FIN.out⟩
open Go.RowKit
variable {X0 : Nat → Prop}
theorem WD.looks {W : Nat → Prop} {w : World} {wb room nb fr bl K lasted : Nat} {H : List Int} {Us : List (List Pm)} (h : WD X0 W w wb room nb fr bl K lasted H Us) (hK : K + nb < 4611686018427387904) : nb ≤ 524288 ∧ wb < w.heap.size ∧ ∃ j g ta tc, g < w.heap.size ∧ w.cell? ⟨wb, 2, none⟩ = some (.pointer (some ⟨j, 0, none⟩)) ∧ w.cell? ⟨wb, 3, none⟩ = some (.pointer (some ⟨g, 0, none⟩)) ∧ w.cell? ⟨g, 3, none⟩ = some (.slice ta Us.length tc) ∧ (∀ w', Below w.heap.size w w' → Calls Tryz.prog 76 #[.pointer (some ⟨g, 0, none⟩)] w' fun e w'' => e = .returned (.int .i64 (nb : Int)) ∧ w'' = w') ∧ (∀ w' at_, Below w.heap.size w w' → Calls Tryz.prog 77 #[.pointer (some ⟨g, 0, none⟩), .int .i64 at_] w' fun e w'' => e = .returned (.int .i64 (homeC nb fr bl at_)) ∧ Below w'.heap.size w' w'') ∧ ∀ w', Below w.heap.size w w' → Calls Tryz.prog 22 #[.pointer (some ⟨j, 0, none⟩), .pointer (some ⟨g, 0, none⟩)] w' fun e w'' => e = .returned (.bool true) ∧ w''.cell? ⟨wb, 2, none⟩ = some (.pointer (some ⟨j, 0, none⟩)) ∧ w''.cell? ⟨wb, 3, none⟩ = some (.pointer (some ⟨g, 0, none⟩)) ∧ But W w w'' := by
 obtain ⟨Z, p, c, j, g, tried, tl, td, hb, hc, ta, tc, vs, Ls, n1, cs, d, s, h, hOn, hW⟩ := h
 refine ⟨h.nb, h.wd.lt, j, g, ta, tc, h.lg.gl, h.wd.cell 2, h.wd.cell 3, h.lg.lg.c3, fun w' hb' => refDisk_any (h.below hb').lg.lg h.nb, fun w' at_ hb' => ?_, fun w' hb' => ?_⟩
 ·refine Calls.mono (refAt_any (h.below hb').lg.lg h.nb h.fit at_) ?_
  rintro e w'' ⟨rfl, b⟩
  exact ⟨rfl, b⟩
 ·have h' := h.below hb'
  refine Calls.mono (holds_any h'.jq hOn h'.lg (fun k _ q => .inl (.inl q)) h.lo h.fit hK) ?_
  rintro e w'' ⟨rfl, _, b⟩
  have hwd := h'.wd.keep (b.block wb h'.wd.lt h'.zw)
  exact ⟨rfl, hwd.cell 2, hwd.cell 3, (But.of_below hb' (X := W)).comp b (fun k _ q => by rw [hW]; exact .inl (.inl q))⟩
open Go.RowKit
def OpenFree (Z : Nat → Prop) (w : World) (c p room nb K M : Nat) (fr bl : Int) (e : Ending) (w' : World) : Prop :=
 ∃ jv code d', e = .returned (.tuple #[.pointer jv, .int .i64 code]) ∧ (jv = none ↔ code ≠ 0) ∧ (placeC nb fr bl ≠ 0 → code = placeC nb fr bl) ∧ d'.off = false ∧ d'.fu = -1 ∧ d'.puts.length ≤ M ∧ (∃ Z', Cq Z' w' c p room nb K d' ∧ Gr Z Z' w) ∧ But Z w w'
theorem Open_q {Z : Nat → Prop} {w : World} {c p room nb K : Nat} {d : Pd} (h : Cq Z w c p room nb K d) (fr bl : Int) (hl : d.puts.length + nb + nb + 8 ≤ 1073741823) (hon : d.off = false) (hfu : d.fu = -1) :
  Calls Tryz.prog 20 #[.pointer (some ⟨c, 0, none⟩), .int .i64 fr, .int .i64 bl] w (OpenFree Z w c p room nb K (d.puts.length + nb + nb + 8) fr bl) := by
 have hlc : layC d nb fr bl = placeC nb fr bl := by unfold layC; rw [hon, if_neg (by decide)]
 refine Calls.mono (Open_any h fr bl hl) ?_
 rintro e w' ⟨b1, jv, code, rfl, k⟩
 rw [hlc] at k
 rcases k with ⟨k1, k2, k3, k4⟩ | ⟨k1, f, b, ef, eb, hb1, hb2, k⟩
 ·exact ⟨jv, code, d, rfl, ⟨fun _ => by rw [k2]; exact k1, fun _ => k3⟩, fun _ => k2, hon, hfu, by omega, k4, b1⟩
 ·rcases k with ⟨k2, k3, _, k4⟩ | ⟨l, q, k2, k3, k4, Z', k5, k6⟩
  ·exact ⟨jv, code, d, rfl, ⟨fun _ => by rw [k2]; decide, fun _ => k3⟩, fun q => absurd k1 q, hon, hfu, by omega, k4, b1⟩
  ·obtain ⟨f1, f2, f3⟩ := Pd.runs_free hon hfu (settleCmds nb f b (openS nb f b d l q))
   have hp := d.runs_puts (settleCmds nb f b (openS nb f b d l q))
   have hs := length_settleCmds nb f b (openS nb f b d l q)
   rcases k6 with ⟨k7, _⟩ | ⟨k7, j, k8, _, k9⟩
   ·exact absurd (k4.trans f1) k7
   ·exact ⟨jv, code, _, rfl, ⟨fun q => (by rw [k8] at q; cases q), fun q => absurd k7 q⟩, fun q => absurd k1 q, f2, f3, by omega, ⟨Z', k9.toCq, k5⟩, b1⟩
end Go.Proofs.YtldlejpacgphmabGreat
