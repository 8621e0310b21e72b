/-
  Lend.
-/
import Derived.Test.YtfglfbiibeffbaaVe1
namespace Go.Proofs.Ytfglfbiibeffbaa
open Go.RowKit

theorem BlV.cs7 {w : World} {g : Nat} {os : List PV} {us : List Value} (h : BlV w g os us) (j : Nat) (hj : j < os.length) : ∃ v0 v1 v2 v3 v4 v5 v6, w.cell? ⟨g, j * 7, none⟩ = some v0 ∧ w.cell? ⟨g, j * 7 + 1, none⟩ = some v1 ∧ w.cell? ⟨g, j * 7 + 2, none⟩ = some v2 ∧ w.cell? ⟨g, j * 7 + 3, none⟩ = some v3 ∧ w.cell? ⟨g, j * 7 + 4, none⟩ = some v4 ∧ w.cell? ⟨g, j * 7 + 5, none⟩ = some v5 ∧ w.cell? ⟨g, j * 7 + 6, none⟩ = some v6 := by
  have k := fun i hi => h.at j hj i hi
  exact ⟨_, _, _, _, _, _, _, k 0 (by omega), k 1 (by omega), k 2 (by omega), k 3 (by omega), k 4 (by omega), k 5 (by omega), k 6 (by omega)⟩

/-- what Lend answers -/
def LendQ (w : World) (x : VW) (e : Ending) (w' : World) : Prop := ∃ F gs, e = .returned (viewA x (some ⟨F, 0, none⟩) (2 * x.vs.length + 70)) ∧ LentV w' F gs x.vs ∧ Below w.heap.size w w'

set_option maxRecDepth 100000 in
set_option maxHeartbeats 8000000 in
theorem Lend_any (x : VW) (a : Option Addr) (c : Nat) (w : World) (hl : shV x.vs) (hR : RdV w.heap.size w a x.vs) :
    Calls Try.prog 4 #[viewA x a c] w fun e w' => LendQ w x e w' := by
  obtain ⟨R, hRR⟩ : ∃ R, R = w.heap.size := ⟨_, rfl⟩
  obtain ⟨Q, hQQ⟩ : ∃ Q, Q = R + 1 := ⟨_, rfl⟩
  obtain ⟨W0, hW0⟩ : ∃ W0, W0 = (w.alloc (.cells #[.int .i64 x.cp, .int .i64 x.fr, .int .i64 x.nx, .slice a x.vs.length c] 24)).alloc (.cells #[.int .i64 0, .int .i64 0, .int .i64 0, .slice none 0 0] 24) := ⟨_, rfl⟩
  have b0 : Below w.heap.size w W0 := by rw [hW0]; exact two_below _ _ _
  have z0 : W0.heap.size = R + 2 := by rw [hW0, hRR]; simp
  have r0 : VwB W0 R x (.slice a x.vs.length c) := by
    unfold VwB
    rw [hW0, hRR, Below.heap_alloc _ _ _ (by simp)]
    exact heap_new _ _
  have r1 : VwB W0 Q VW0 (.slice none 0 0) := by
    have := heap_new (w.alloc (.cells #[.int .i64 x.cp, .int .i64 x.fr, .int .i64 x.nx, .slice a x.vs.length c] 24)) (.cells #[.int .i64 0, .int .i64 0, .int .i64 0, .slice none 0 0] 24)
    rw [World.size_alloc, ← hRR, ← hW0, ← hQQ] at this
    exact this
  have hmkF := fun u => make_vol (2 * x.vs.length + 70) (by have := hl.1; omega) u
  rw [show ((2 * x.vs.length + 70 : Nat) : Int) = 2 * (x.vs.length : Int) + 70 by omega] at hmkF
  obtain ⟨TF, hTF⟩ : ∃ TF, TF = (flatV (List.replicate (2 * x.vs.length + 70) PV0) (List.replicate (2 * x.vs.length + 70) (.slice none 0 0))).toArray := ⟨_, rfl⟩
  simp only [← hTF] at hmkF
  have HC : Hid (Calls Try.prog 6 #[viewA x a c] W0 fun e w1 => ∃ a1 c1, e = .returned (viewA x a1 c1) ∧ VwB w1 R x (.slice a x.vs.length c) ∧ R < w1.heap.size ∧ ∀ C F, C = w1.heap.size → F = w1.heap.size + 1 → LeS w ((w1.alloc (.cells #[.int .i64 x.cp, .int .i64 x.fr, .int .i64 x.nx, .slice a1 x.vs.length c1] 24)).alloc (.cells TF 30)) Q C F x a1 c1 (x.vs.take 0 ++ List.replicate (2 * x.vs.length + 70) PV0) (List.zipWith sl (x.vs.take 0) [] ++ List.replicate (2 * x.vs.length + 70) nilS) []) := by
    refine (CopyView_any x a c W0 hl ((hR.below b0).mono b0.size)).mono ?_
    rintro e w1 ⟨a1, c1, rfl, hRd, _, hb1⟩
    have z1 := hb1.size
    refine ⟨a1, c1, rfl, r0.keep (hb1.block _ r0.lt), by omega, ?_⟩
    rintro C F hC hF
    have b2 : Below w1.heap.size w1 ((w1.alloc (.cells #[.int .i64 x.cp, .int .i64 x.fr, .int .i64 x.nx, .slice a1 x.vs.length c1] 24)).alloc (.cells TF 30)) := two_below _ _ _
    have bb := b0.trans ((hb1.trans (b2.mono z1)).mono b0.size)
    subst hC hF
    refine ⟨(r1.keep (hb1.block _ r1.lt)).keep (b2.block _ (Nat.lt_of_lt_of_le r1.lt z1)), ?_, hRd.below b2, ⟨by simp, ?_⟩, Nat.zero_le _, fun i hi => by simp at hi, bb, by omega, by omega, by omega⟩
    · unfold VwB
      rw [Below.heap_alloc _ _ _ (by simp)]
      exact heap_new _ _
    · have := heap_new (w1.alloc (.cells #[.int .i64 x.cp, .int .i64 x.fr, .int .i64 x.nx, .slice a1 x.vs.length c1] 24)) (.cells TF 30)
      rw [World.size_alloc] at this
      rw [this, hTF]
      simp
  have HE : Hid (w.heap.size = R ∧ w.heap.size + 1 = Q) := ⟨by omega, by omega⟩
  have HW0 := hid hW0
  have hn := hl.1
  have HL := hid hl
  clear hW0 b0 z0 r0 r1 hR hRR hQQ hTF hl
  dsimp only [viewA] at HC ⊢
  go_enter Try.func4, Try.ntmps4
  go_wp2_with fail
  rw [← HW0.out, HE.out.2, HE.out.1]
  refine HC.out.mono ?_
  rintro e w1 ⟨a1, c1, rfl, p1, hRl, hS⟩
  have HS := hid hS
  obtain ⟨⟨_, _, _, p3⟩, _⟩ := p1.cs
  clear p1 hS HC HW0
  go_wp2_with fail
  obtain ⟨C, hC⟩ : ∃ C, C = w1.heap.size := ⟨_, rfl⟩
  obtain ⟨F, hF⟩ : ∃ F, F = w1.heap.size + 1 := ⟨_, rfl⟩
  have HST := hid (HS.out C F hC hF)
  rw [← hF, ← hC]
  clear HS p3 hRl hC hF hmkF
  go_loopw [5] (fun i wr => ∃ (r : Nat) (gs : List Nat), r ≤ x.vs.length ∧ i = .int .i64 (r : Int) ∧ gs.length = r ∧ LeS w wr Q C F x a1 c1 (x.vs.take r ++ List.replicate (2 * x.vs.length + 70 - r) PV0) (List.zipWith sl (x.vs.take r) gs ++ List.replicate (2 * x.vs.length + 70 - r) nilS) gs) (fun i _ => x.vs.length - (intOf i).toNat)
  case atStart => exact ⟨0, [], Nat.zero_le _, rfl, rfl, HST.out⟩
  case round =>
    clear HST
    generalize wr = wo at *
    obtain ⟨r, gs, hr, rfl, hg, hS⟩ := hrel
    obtain ⟨⟨_, _, _, q3⟩, _⟩ := hS.cb.cs
    by_cases hlt : r < x.vs.length
    · obtain ⟨b, off, ea, hbC, hc⟩ := hS.rd.resolve_left (fun e => by rw [e] at hlt; simp at hlt)
      obtain ⟨a2, c2, hV, hRd, _⟩ := hc r hlt
      subst ea
      obtain ⟨m, hm⟩ : ∃ m, 2 * x.vs.length + 70 - r = m + 1 := ⟨2 * x.vs.length + 69 - r, by omega⟩
      rw [hm] at hS
      have hm2 : 2 * x.vs.length + 70 - (r + 1) = m := by omega
      have c6 := hV.2.2.2.2.2.2
      have hk := HL.out.2 x.vs[r] (List.getElem_mem hlt)
      have hmk := fun u => make_rg (2 * x.vs[r].mp.length + 70) (by omega) u
      rw [show ((2 * x.vs[r].mp.length + 70 : Nat) : Int) = 2 * (x.vs[r].mp.length : Int) + 70 by omega] at hmk
      obtain ⟨TR, hTR⟩ : ∃ TR, TR = (flatR (List.replicate (2 * x.vs[r].mp.length + 70) ⟨0, 0⟩)).toArray := ⟨_, rfl⟩
      simp only [← hTR] at hmk
      obtain ⟨G, hG⟩ : ∃ G, G = wo.heap.size := ⟨_, rfl⟩
      have HI0 : Hid (BlR (wo.alloc (.cells TR 32)) G (fils 0 ++ List.replicate (2 * x.vs[r].mp.length + 70) ⟨0, 0⟩) ∧ Below wo.heap.size wo (wo.alloc (.cells TR 32))) := ⟨by rw [hG, hTR]; exact heap_new _ _, below1 _ _⟩
      have HIN : Hid (∀ wi, Below wo.heap.size wo wi → BlR wi G (fils (2 * x.vs[r].mp.length + 70)) → ∃ w2, (Builtin.copy_ #[28, 28] 3 #[.slice (some ⟨G, 0, none⟩) (2 * x.vs[r].mp.length + 70) (2 * x.vs[r].mp.length + 70), .slice a2 x.vs[r].mp.length c2]).run Try.prog wi = .ok (.int .i64 (x.vs[r].mp.length : Int)) w2 ∧
          wi.cell? ⟨C, 3, none⟩ = some (.slice (some ⟨b, off, none⟩) x.vs.length c1) ∧ wi.cell? ⟨b, off + r * 7 + 6, none⟩ = some (.slice a2 x.vs[r].mp.length c2) ∧ w2.cell? ⟨C, 3, none⟩ = some (.slice (some ⟨b, off, none⟩) x.vs.length c1) ∧ VolC w2 b (off + r * 7) x.vs[r] a2 c2 ∧
          (∃ v0 v1 v2 v3 v4 v5 v6, w2.cell? ⟨F, r * 7, none⟩ = some v0 ∧ w2.cell? ⟨F, r * 7 + 1, none⟩ = some v1 ∧ w2.cell? ⟨F, r * 7 + 2, none⟩ = some v2 ∧ w2.cell? ⟨F, r * 7 + 3, none⟩ = some v3 ∧ w2.cell? ⟨F, r * 7 + 4, none⟩ = some v4 ∧ w2.cell? ⟨F, r * 7 + 5, none⟩ = some v5 ∧ w2.cell? ⟨F, r * 7 + 6, none⟩ = some v6) ∧ (∀ i, w2.frozen? ⟨F, i, none⟩ = false) ∧
          ∀ y, y = (at7 w2 F (r * 7) x.vs[r] (.slice a2 x.vs[r].mp.length c2)).setCell ⟨F, r * 7 + 6, none⟩ (.slice (some ⟨G, 0, none⟩) x.vs[r].mp.length (2 * x.vs[r].mp.length + 70)) → LeS w y Q C F x (some ⟨b, off, none⟩) c1 (x.vs.take (r + 1) ++ List.replicate (2 * x.vs.length + 70 - (r + 1)) PV0) (List.zipWith sl (x.vs.take (r + 1)) (gs ++ [G]) ++ List.replicate (2 * x.vs.length + 70 - (r + 1)) nilS) (gs ++ [G])) := fun wi hb hB => by
        obtain ⟨w2, k1, k2, k3, k4, k5⟩ := hS.step r hlt hg b off a2 c2 hbC hV hRd G hG hb hB
        rw [hm2]
        exact ⟨w2, k1, (hS.next hb).cb.cs.1.2.2.2, k4.2.2.2.2.2.2, k2.cb.cs.1.2.2.2, k3, k2.fb.cs7 r (by rw [List.length_append, List.length_take, List.length_replicate]; omega), k2.fb.frozen, k5⟩
      have HG := hid hG
      have hCF : C ≠ F := by have := hS.oF; omega
      have hbF : b ≠ F := by have := hS.oF; omega
      clear hS hc hRd hV hm hm2 hTR hG HL
      generalize x.vs[r] = v at *
      generalize hvl : v.mp.length = kl at *
      have HVL := hid hvl
      clear hvl
      have hr1 : (r : Int) < (x.vs.length : Int) := by omega
      go_wp2_with fail
      rw [← HG.out]
      go_loopw [7] (fun kv wi => ∃ k : Nat, kv = .int .i64 (k : Int) ∧ k ≤ 2 * kl + 70 ∧ BlR wi G (fils k ++ List.replicate (2 * kl + 70 - k) ⟨0, 0⟩) ∧ Below wo.heap.size wo wi) (fun kv _ => 2 * kl + 70 - (intOf kv).toNat)
      case atStart => exact ⟨0, rfl, Nat.zero_le _, HI0.out.1, HI0.out.2⟩
      case round =>
        clear HI0
        obtain ⟨k, rfl, hkk, hB, hBe⟩ := hrel
        by_cases q : k < 2 * kl + 70
        · have hlen : (fils k ++ List.replicate (2 * kl + 70 - k) (⟨0, 0⟩ : Rg)).length = 2 * kl + 70 := by rw [List.length_append, fils_len, List.length_replicate]; omega
          obtain ⟨d0, d1⟩ := hB.cell k (by omega)
          have f0 := hB.frozen (k * 2)
          have f1 := hB.frozen (k * 2 + 1)
          have HNX : Hid (∀ W, W = (wr.setCell ⟨G, k * 2, none⟩ (.int .i64 (-7 - (k : Int)))).setCell ⟨G, k * 2 + 1, none⟩ (.int .i64 (-8)) → BlR W G (fils (k + 1) ++ List.replicate (2 * kl + 70 - (k + 1)) ⟨0, 0⟩) ∧ Below wo.heap.size wo W) := fun W hW => by
            have h4 := hB.set2 k (fil k) (by omega)
            have e4 : (wr.setCell ⟨G, k * 2, none⟩ (.int .i64 (fil k).f)).setCell ⟨G, k * 2 + 1, none⟩ (.int .i64 (fil k).t) = W := hW.symm
            rw [e4, show 2 * kl + 70 - k = (2 * kl + 70 - (k + 1)) + 1 by omega, set_rep _ _ _ _ (fils_len k).symm] at h4
            have hG := HG.out
            refine ⟨by rw [fils_succ]; exact h4, ?_⟩
            rw [hW]
            exact (hBe.setCell (p := ⟨G, k * 2, none⟩) (by simp; omega) _).setCell (p := ⟨G, k * 2 + 1, none⟩) (by simp; omega) _
          have q' : (k : Int) < 2 * (kl : Int) + 70 := by omega
          clear hB hBe HIN
          go_wp2_with fail
          go_roundw
          case rel => exact ⟨k + 1, by go_num, by omega, (HNX.out _ rfl).1, (HNX.out _ rfl).2⟩
          case measure => simp [intOf]; omega
        · obtain rfl : k = 2 * kl + 70 := by omega
          rw [Nat.sub_self, List.replicate_zero, List.append_nil] at hB
          obtain ⟨w2, hrun, g3, g6, s3, ⟨t0, t1, t2, t3, t4, t5, t6⟩, ⟨v0, v1, v2, v3, v4, v5, v6, u0, u1, u2, u3, u4, u5, u6⟩, uf, hfin⟩ := HIN.out wr hBe hB
          have HF := hid hfin
          rw [HVL.out] at t6
          have q' : ¬ (2 * (kl : Int) + 70) < 2 * (kl : Int) + 70 := by omega
          have q2 : (kl : Int) ≤ 2 * (kl : Int) + 70 := by omega
          have q3' : (r : Int) < 2 * (x.vs.length : Int) + 70 := by omega
          clear hB hBe HIN hfin q3 c6 hmk
          go_wp2_with fail
          exact ⟨⟨r + 1, gs ++ [G], by omega, by go_num, by simp [hg], HF.out _ rfl⟩, by simp [intOf]; omega⟩
    · have e : r = x.vs.length := by omega
      subst e
      have HST : Hid (LeS w wo Q C F x a1 c1 (x.vs ++ (behs x.vs.length 0 ++ List.replicate (x.vs.length + 70 - 0) PV0)) (List.zipWith sl x.vs gs ++ List.replicate (0 + (x.vs.length + 70 - 0)) nilS) gs) := by
        have := hS
        rw [List.take_length, show 2 * x.vs.length + 70 - x.vs.length = x.vs.length + 70 by omega] at this
        simpa [behs, Hid] using this
      clear hS
      go_wp2_with fail
      go_loopw [8] (fun iv wr => ∃ i : Nat, iv = .int .i64 (((x.vs.length + i : Nat)) : Int) ∧ i ≤ x.vs.length + 70 ∧ LeS w wr Q C F x a1 c1 (x.vs ++ (behs x.vs.length i ++ List.replicate (x.vs.length + 70 - i) PV0)) (List.zipWith sl x.vs gs ++ List.replicate (i + (x.vs.length + 70 - i)) nilS) gs) (fun iv _ => 2 * x.vs.length + 70 - (intOf iv).toNat)
      case atStart => exact ⟨0, rfl, Nat.zero_le _, HST.out⟩
      case round =>
        clear HST q3
        obtain ⟨i, rfl, hi, hS⟩ := hrel
        obtain ⟨⟨_, _, _, q3⟩, qf⟩ := hS.cb.cs
        by_cases q : i < x.vs.length + 70
        · obtain ⟨v0, v1, v2, v3, v4, v5, v6, u0, u1, u2, u3, u4, u5, u6⟩ := hS.fb.cs7 (x.vs.length + i) (by simp [behs_len]; omega)
          have uf := hS.fb.frozen
          have HNX : Hid (∀ W, W = ((((((wr.setCell ⟨F, (x.vs.length + i) * 7, none⟩ (.string ⟨#[98, 101, 104, 105, 110, 100]⟩)).setCell ⟨F, (x.vs.length + i) * 7 + 1, none⟩ (.int .i64 (-9 - ((x.vs.length : Int) + (i : Int))))).setCell ⟨F, (x.vs.length + i) * 7 + 2, none⟩ (.int .i64 0)).setCell ⟨F, (x.vs.length + i) * 7 + 3, none⟩ (.int .i64 0)).setCell ⟨F, (x.vs.length + i) * 7 + 4, none⟩ (.int .i64 0)).setCell ⟨F, (x.vs.length + i) * 7 + 5, none⟩ (.bool false)).setCell ⟨F, (x.vs.length + i) * 7 + 6, none⟩ (.slice none 0 0) → LeS w W Q C F x a1 c1 (x.vs ++ (behs x.vs.length (i + 1) ++ List.replicate (x.vs.length + 70 - (i + 1)) PV0)) (List.zipWith sl x.vs gs ++ List.replicate ((i + 1) + (x.vs.length + 70 - (i + 1))) nilS) gs) := fun W hW => by
            have h5 := hS
            rw [show x.vs.length + 70 - i = (x.vs.length + 70 - (i + 1)) + 1 by omega] at h5
            refine h5.fill hg (x.vs.length + i) rfl W (hW.trans ?_)
            unfold at7 beh sBeh
            rw [show (((x.vs.length + i : Nat)) : Int) = (x.vs.length : Int) + (i : Int) by omega]
          have q' : (x.vs.length : Int) + (i : Int) < 2 * (x.vs.length : Int) + 70 := by omega
          clear hS
          go_wp2_with fail
          exact ⟨⟨i + 1, by rw [show ((x.vs.length + (i + 1) : Nat) : Int) = (x.vs.length : Int) + (i : Int) + 1 by omega], by omega, HNX.out _ rfl⟩, by simp [intOf]; omega⟩
        · obtain rfl : i = x.vs.length + 70 := by omega
          obtain ⟨⟨g0, g1, g2, g3⟩, gf⟩ := hS.rb.cs
          obtain ⟨⟨h0, h1, h2, h3⟩, hf⟩ := hS.cb.cs
          have hQC : Q ≠ C := by have := hS.oC; omega
          have HFin : Hid (∀ y, y = put4 (wr.setCell ⟨C, 3, none⟩ (.slice (some ⟨F, 0, none⟩) x.vs.length (2 * x.vs.length + 70))) Q x (.slice (some ⟨F, 0, none⟩) x.vs.length (2 * x.vs.length + 70)) → LentV y F gs x.vs ∧ VwB y Q x (.slice (some ⟨F, 0, none⟩) x.vs.length (2 * x.vs.length + 70)) ∧ Below w.heap.size w y) := fun y hy => by
            have h5 := hS
            rw [Nat.sub_self, Nat.add_zero] at h5
            exact h5.done hg _ y hy
          have q' : ¬ (x.vs.length : Int) + ((x.vs.length : Int) + 70) < 2 * (x.vs.length : Int) + 70 := by omega
          have q2 : (x.vs.length : Int) ≤ 2 * (x.vs.length : Int) + 70 := by omega
          clear hS q3
          go_wp2_with fail
          exact bodyPost_ret (results_row1 rfl _ _ Q 24 _ (0, 0) _ rfl (HFin.out _ rfl).2.1 Try.underlying24 rfl (by kernel_rfl)) rfl ⟨F, gs, rfl, (HFin.out _ rfl).1, (HFin.out _ rfl).2.2⟩
end Go.Proofs.Ytfglfbiibeffbaa
