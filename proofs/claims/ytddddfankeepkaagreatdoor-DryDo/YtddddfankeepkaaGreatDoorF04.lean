import Derived.Test.YtddddfankeepkaaGreatDoorF03
namespace Go.Proofs.YtddddfankeepkaaGreatDoor
open Go.RowKit
theorem LentV.beh {w : World} {F : Nat} {gs : List Nat} {vs : List PV} (h : LentV w F gs vs) (i : Nat) (hi : i < vs.length + 70) : VolC w F ((vs.length + i) * 7) (beh (vs.length + i)) none 0 := by
 have hgl := h.gl
 have e2 : (List.zipWith sl vs gs).length = vs.length := by rw [List.length_zipWith, hgl, Nat.min_self]
 have k := fun q hq => h.fb.at (vs.length + i) (by simp [behs_len]; omega) q hq
 have e3 : (vs ++ behs vs.length (vs.length + 70))[vs.length + i]'(by simp [behs_len]; omega) = Go.Proofs.YtddddfankeepkaaGreatDoor.beh (vs.length + i) := by
  rw [List.getElem_append_right (by omega)]
  simp [behs]
 have e4 : (List.zipWith sl vs gs ++ List.replicate (vs.length + 70) nilS)[vs.length + i]'(by simp; omega) = nilS := by
  rw [List.getElem_append_right (by omega), List.getElem_replicate]
 simp only [e3, e4] at k
 exact ⟨k 0 (by omega), k 1 (by omega), k 2 (by omega), k 3 (by omega), k 4 (by omega), k 5 (by omega), k 6 (by omega)⟩
theorem LentV.hi {w : World} {F : Nat} {gs : List Nat} {vs : List PV} (h : LentV w F gs vs) (j : Nat) (hj : j < vs.length) (k : Nat) (h1 : vs[j].mp.length ≤ k) (h2 : k < 2 * vs[j].mp.length + 70) : w.cell? ⟨gs[j]'(by have := h.gl; omega), k * 2, none⟩ = some (.int .i64 (-7 - (k : Int))) ∧ w.cell? ⟨gs[j]'(by have := h.gl; omega), k * 2 + 1, none⟩ = some (.int .i64 (-8)) := by
 have hl : k < (lentR vs[j].mp).length := by rw [lentR_len]; exact h2
 have := (h.gb j hj).cell k hl
 rw [lentR_hi _ k h1 hl] at this
 exact this
set_option maxRecDepth 100000 in
set_option maxHeartbeats 8000000 in
theorem Back_yes (x : VW) (F : Nat) (gs : List Nat) (a : Option Addr) (c : Nat) (w : World) (hl : shV x.vs) (hL : LentV w F gs x.vs) (hR : RdV w.heap.size w a x.vs) :
  Calls Tryz.prog 21 #[viewA x (some ⟨F, 0, none⟩) (2 * x.vs.length + 70), .slice (some ⟨F, 0, none⟩) x.vs.length (2 * x.vs.length + 70), viewA x a c] w fun e w' => e = .returned (.bool true) ∧ Below w.heap.size w w' := by
 obtain ⟨R, hRR⟩ : ∃ R, R = w.heap.size := ⟨_, rfl⟩
 obtain ⟨Q, hQQ⟩ : ∃ Q, Q = w.heap.size + 1 := ⟨_, rfl⟩
 obtain ⟨W2, hW2⟩ : ∃ W2, W2 = (w.alloc (.cells #[.int .i64 x.cp, .int .i64 x.fr, .int .i64 x.nx, .slice (some ⟨F, 0, none⟩) x.vs.length (2 * x.vs.length + 70)] 24)).alloc (.cells #[.int .i64 x.cp, .int .i64 x.fr, .int .i64 x.nx, .slice a x.vs.length c] 24) := ⟨_, rfl⟩
 have b2 : Below w.heap.size w W2 := by rw [hW2]; exact two_below _ _ _
 have q0 : VwB W2 Q x (.slice a x.vs.length c) := by
  have := heap_new (w.alloc (.cells #[.int .i64 x.cp, .int .i64 x.fr, .int .i64 x.nx, .slice (some ⟨F, 0, none⟩) x.vs.length (2 * x.vs.length + 70)] 24)) (.cells #[.int .i64 x.cp, .int .i64 x.fr, .int .i64 x.nx, .slice a x.vs.length c] 24)
  rw [World.size_alloc, ← hW2, ← hQQ] at this
  exact this
 have hL2 := hL.next b2
 have hR2 := (hR.below b2).mono b2.size
 have HC : Hid (Calls Tryz.prog 13 #[viewA x (some ⟨F, 0, none⟩) (2 * x.vs.length + 70), viewA x a c] W2 fun e w' => e = .returned (.bool true) ∧ Below W2.heap.size W2 w') := SameView_yes x (some ⟨F, 0, none⟩) a (2 * x.vs.length + 70) c W2 hl hL2.rd hR2
 have HL := hid hL2
 have HR := hid hR2
 have HQ := hid q0
 have HBB := hid b2
 have HE : Hid (w.heap.size = R ∧ w.heap.size + 1 = Q) := ⟨by omega, by omega⟩
 have HW2 := hid hW2
 have hn := hl.1
 have HH := hid hl
 clear hL2 hR2 q0 b2 hW2 hRR hQQ hl hL hR
 dsimp only [viewA] at HC ⊢
 go_enter Tryz.func21, Tryz.ntmps21
 go_wp2_with fail
 rw [← HW2.out, HE.out.2, HE.out.1]
 refine HC.out.mono ?_
 rintro e w3 ⟨rfl, hb3⟩
 obtain ⟨⟨_, _, _, q3⟩, _⟩ := (HQ.out.keep (hb3.block _ HQ.out.lt)).cs
 have HB3 := hid hb3
 clear HC HW2 hb3
 have hn2 : (x.vs.length : Int) ≤ 2 * (x.vs.length : Int) + 70 := by omega
 go_wp2_with fail
 go_loopw [8] (fun iv wr => ∃ i : Nat, iv = .int .i64 (((x.vs.length + i : Nat)) : Int) ∧ i ≤ x.vs.length + 70 ∧ Below W2.heap.size W2 wr) (fun iv _ => 2 * x.vs.length + 70 - (intOf iv).toNat)
 case atStart => exact ⟨0, rfl, Nat.zero_le _, HB3.out⟩
 case round =>
  clear HB3 q3
  obtain ⟨i, rfl, hi, hb⟩ := hrel
  obtain ⟨⟨_, _, _, q3⟩, _⟩ := (HQ.out.keep (hb.block _ HQ.out.lt)).cs
  by_cases q : i < x.vs.length + 70
  ·obtain ⟨c0, c1, c2, c3, c4, c5, c6⟩ := (HL.out.next hb).beh i q
   have HC : Hid (Calls Tryz.prog 45 #[volA (beh (x.vs.length + i)) none 0, volA (beh (x.vs.length + i)) none 0] wr fun e w' => AnsB wr (beh (x.vs.length + i) = beh (x.vs.length + i)) e w') := SameVolume_any _ _ none none 0 0 wr (Nat.zero_le _) (.inl rfl) (.inl rfl)
   dsimp only [beh, sBeh, volA, List.length_nil] at HC c0 c1 c2 c3 c4 c5 c6
   rw [show (((x.vs.length + i : Nat)) : Int) = (x.vs.length : Int) + (i : Int) by omega] at HC c1
   have q' : (x.vs.length : Int) + (i : Int) < 2 * (x.vs.length : Int) + 70 := by omega
   have HB := hid hb
   clear hb
   go_wp2_with fail
   refine HC.out.mono ?_
   rintro e w4 ⟨bb, rfl, hbi, hb4⟩
   obtain rfl : bb = true := hbi.2 (by simp)
   have HB4 := hid (HB.out.trans (hb4.mono HB.out.size))
   clear hbi hb4 HC HB c0 c1 c2 c3 c4 c5 c6 q3
   go_wp2_with fail
   exact ⟨⟨i + 1, by rw [show ((x.vs.length + (i + 1) : Nat) : Int) = (x.vs.length : Int) + (i : Int) + 1 by omega], by omega, HB4.out⟩, by simp [intOf]; omega⟩
  ·obtain rfl : i = x.vs.length + 70 := by omega
   have q' : ¬ (x.vs.length : Int) + ((x.vs.length : Int) + 70) < 2 * (x.vs.length : Int) + 70 := by omega
   have HB := hid hb
   clear hb
   generalize wr = wo at *
   go_wp2_with fail
   go_loopw [9] (fun iv wr => ∃ r : Nat, iv = .int .i64 (r : Int) ∧ r ≤ x.vs.length ∧ Below W2.heap.size W2 wr) (fun iv _ => x.vs.length - (intOf iv).toNat)
   case atStart => exact ⟨0, rfl, Nat.zero_le _, HB.out⟩
   case round =>
    clear q3 HB
    obtain ⟨r, rfl, hr, hb⟩ := hrel
    obtain ⟨⟨_, _, _, q3⟩, _⟩ := (HQ.out.keep (hb.block _ HQ.out.lt)).cs
    by_cases hlt : r < x.vs.length
    ·obtain ⟨b, off, rfl, hbl, hc⟩ := (HR.out.below hb).resolve_left (fun e => by rw [e] at hlt; simp at hlt)
     obtain ⟨a2, c2, ⟨_, _, _, _, _, _, d6⟩, _, _⟩ := hc r hlt
     obtain ⟨_, _, _, _, _, _, f6⟩ := (HL.out.next hb).vol r hlt
     have hk := HH.out.2 x.vs[r] (List.getElem_mem hlt)
     have HI : Hid (∀ wi, Below W2.heap.size W2 wi → ∀ k, x.vs[r].mp.length ≤ k → k < 2 * x.vs[r].mp.length + 70 → wi.cell? ⟨gs[r]'(by have := HL.out.gl; omega), k * 2, none⟩ = some (.int .i64 (-7 - (k : Int))) ∧ wi.cell? ⟨gs[r]'(by have := HL.out.gl; omega), k * 2 + 1, none⟩ = some (.int .i64 (-8))) := fun wi hbi k h1 h2 => (HL.out.next hbi).hi r hlt k h1 h2
     generalize gs[r]'(by have := HL.out.gl; omega) = G at *
     generalize x.vs[r].mp.length = kl at *
     have hr1 : (r : Int) < (x.vs.length : Int) := by omega
     have hr2 : (r : Int) < 2 * (x.vs.length : Int) + 70 := by omega
     have hk2 : (kl : Int) ≤ 2 * (kl : Int) + 70 := by omega
     have HB := hid hb
     clear hb hc
     generalize wr = wo at *
     go_wp2_with fail
     go_loopw [12] (fun kv wr => ∃ k : Nat, kv = .int .i64 (((kl + k : Nat)) : Int) ∧ k ≤ kl + 70 ∧ Below W2.heap.size W2 wr) (fun kv _ => 2 * kl + 70 - (intOf kv).toNat)
     case atStart => exact ⟨0, rfl, Nat.zero_le _, HB.out⟩
     case round =>
      clear q3 HB d6 f6
      obtain ⟨k, rfl, hkk, hb⟩ := hrel
      have HB := hid hb
      by_cases q : k < kl + 70
      ·obtain ⟨e0, e1⟩ := HI.out wr hb (kl + k) (by omega) (by omega)
       rw [show (((kl + k : Nat)) : Int) = (kl : Int) + (k : Int) by omega] at e0
       have q' : (kl : Int) + (k : Int) < 2 * (kl : Int) + 70 := by omega
       clear hb
       go_wp2_with fail
       exact ⟨⟨k + 1, by rw [show ((kl + (k + 1) : Nat) : Int) = (kl : Int) + (k : Int) + 1 by omega], by omega, HB.out⟩, by simp [intOf]; omega⟩
      ·obtain rfl : k = kl + 70 := by omega
       have q' : ¬ (kl : Int) + ((kl : Int) + 70) < 2 * (kl : Int) + 70 := by omega
       clear hb
       go_wp2_with fail
       exact ⟨⟨r + 1, by go_num, by omega, HB.out⟩, by simp [intOf]; omega⟩
    ·have hr1 : ¬ (r : Int) < (x.vs.length : Int) := by omega
     have HBF := hid (HBB.out.trans (hb.mono HBB.out.size))
     clear hb
     go_wp2_with fail
     go_ret
     exact ⟨rfl, HBF.out⟩
end Go.Proofs.YtddddfankeepkaaGreatDoor
