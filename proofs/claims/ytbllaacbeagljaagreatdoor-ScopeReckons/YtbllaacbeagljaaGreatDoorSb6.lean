/-
  scope: numberOf, of a number of numbers.
-/
import Derived.Test.YtbllaacbeagljaaGreatDoorSb5
namespace Go.Proofs.YtbllaacbeagljaaGreatDoor
open Go.RowKit Go.Maps

theorem poOf {PO Q : Ending → World → Prop} {e : Ending} {w : World} (h : PO = Q) (h2 : Q e w) : PO e w := by rw [h]; exact h2
set_option maxRecDepth 100000 in
set_option maxHeartbeats 8000000 in
theorem number_step (d : Nat) (ih : NoS d) : NoS (d + 1) := by
  intro t D a l c w hA hK
  obtain ⟨rfl, hlm⟩ := hK.len
  obtain ⟨PO, hPO⟩ : ∃ PO : Ending → World → Prop, PO = fun e w' => (∃ v, e = .returned v ∧ NumR (fun g => w.heap.size ≤ g) w' (d + 1) v t) ∧ Below w.heap.size w w' := ⟨_, rfl⟩
  rw [← hPO]
  have HPO := hid hPO
  obtain ⟨W, hW⟩ : ∃ W, W = (w.alloc (.cells (ncs t.k (strOfNums t.tx) t.n t.at_ a t.kids.length c) 25)).alloc (.cells #[.int .i64 t.at_] 108) := ⟨_, rfl⟩
  obtain ⟨b, hb⟩ : ∃ b, b = w.heap.size := ⟨_, rfl⟩
  have hbl : Below w.heap.size w W := by rw [hW]; exact below2 _ _ _
  have hC1 : Cs W b 25 (ncs t.k (strOfNums t.tx) t.n t.at_ a t.kids.length c) := by rw [hW, hb]; exact heap2 _ _ _
  have hC2 : Cs W (b + 1) 108 #[.int .i64 t.at_] := by rw [hW, hb]; simpa using Cs.new (w.alloc (.cells (ncs t.k (strOfNums t.tx) t.n t.at_ a t.kids.length c) 25)) 108 #[.int .i64 t.at_]
  have HW := hid hW
  have Hb := hid hb
  have HB := hid hbl
  have HC1 := hid hC1
  have HC2 := hid hC2
  have HK := hid hK
  have HI := hid ih
  have HA := hid hA
  obtain ⟨k, tx, n, at_, ks⟩ := t
  simp only at *
  obtain ⟨x0, x1, x2, x3, x4⟩ := hC1.five
  have y0 := hC2.cell 0 _ rfl
  generalize strOfNums tx = S at *
  clear hW hb hbl hC1 hC2 hK ih hPO
  have hk := hA.1
  clear hA
  simp only at hk
  rcases hk with hk | ⟨hk1, hk2, hk3⟩ | ⟨hk | hk, hk0⟩
  · subst hk
    have HF : Hid ((∃ v, Ending.returned (.iface 110 (.agg #[.int .i64 at_, .int .i64 n])) = .returned v ∧ NumR (fun g => w.heap.size ≤ g) W (d + 1) v ⟨20, tx, n, at_, ks⟩) ∧ Below w.heap.size w W) := hid ⟨⟨_, rfl, .inl ⟨rfl, rfl⟩⟩, HB.out⟩
    go_enter Tryz.func37, Tryz.ntmps37
    go_wp2_with fail
    show PO (.returned (.iface 110 (.agg #[.int .i64 at_, .int .i64 n]))) _
    rw [HPO.out, ← HW.out]
    exact HF.out
  · have hK2 := HK.out
    cases D with
    | zero => have := hK2.1; omega
    | succ D =>
      obtain ⟨-, -, hrow⟩ := hK2
      obtain ⟨g, o, a0, l0, c0, rfl, -, hgl, ⟨m0, m1, m2, m3, m4⟩, -, hKk0⟩ := hrow 0 (by omega)
      obtain ⟨g', o', a1, l1, c1, e, -, -, ⟨p0, p1, p2, p3, p4⟩, -, hKk1⟩ := hrow 1 (by omega)
      obtain ⟨rfl, rfl⟩ : g = g' ∧ o = o' := by simpa using e
      have q : ∀ j, W.cell? ⟨g, j, none⟩ = w.cell? ⟨g, j, none⟩ := fun j => HB.out.cell (p := ⟨g, j, none⟩) hgl
      simp only [Nat.zero_mul, Nat.add_zero, Nat.one_mul] at m0 m1 m2 m3 m4 p0 p1 p2 p3 p4
      rw [← q] at m0 m1 m2 m3 m4 p0 p1 p2 p3 p4
      have hglW : g < W.heap.size := Nat.lt_of_lt_of_le hgl HB.out.size
      have HH0 := hid (fun (u : World) (hu : Below W.heap.size W u) => HI.out ks[0] D a0 l0 c0 u (HA.out.2 0 (by show 0 < ks.length; omega)) ((hKk0.next HB.out).next hu))
      have HH1 := hid (fun (u : World) (hu : Below W.heap.size W u) => HI.out ks[1] D a1 l1 c1 u (HA.out.2 1 (by show 1 < ks.length; omega)) ((hKk1.next HB.out).next hu))
      have q20 : (k == 20) = false := by simp; omega
      have q21 : (k == 21) = false := by simp; omega
      have q29 : (k == 29) = false := by simp; omega
      have q30 : (k == 30) = false := by simp; omega
      have q27 : (k == 27) = false := by simp; omega
      have q28 : (k == 28) = false := by simp; omega
      have i0 : (0 : Int) < (ks.length : Int) := by omega
      have i1 : (1 : Int) < (ks.length : Int) := by omega
      have HKK := hid (And.intro hk1 (And.intro hk2 hk3))
      have HGL := hid hglW
      clear hrow hKk0 hKk1 e q hgl hk1 hk2
      obtain ⟨N0, hN0⟩ : ∃ N0, N0 = ks[0] := ⟨_, rfl⟩
      obtain ⟨N1, hN1⟩ : ∃ N1, N1 = ks[1] := ⟨_, rfl⟩
      simp only [← hN0, ← hN1] at m0 m1 m2 m3 m4 p0 p1 p2 p3 p4 HH0 HH1
      have HN0 : Hid (ks[0]? = some N0) := hid (by rw [hN0]; exact List.getElem?_eq_getElem _)
      have HN1 : Hid (ks[1]? = some N1) := hid (by rw [hN1]; exact List.getElem?_eq_getElem _)
      clear hN0 hN1
      generalize hS0 : strOfNums N0.tx = S0 at *
      generalize hS1 : strOfNums N1.tx = S1 at *
      generalize N0.k = k0 at *
      generalize N0.n = n0 at *
      generalize N0.at_ = t0 at *
      generalize N1.k = k1 at *
      generalize N1.n = n1 at *
      generalize N1.at_ = t1 at *
      clear hS0 hS1
      generalize hLn : ks.length = Ln at *
      have i0' : 0 < Ln := by omega
      have i1' : 1 < Ln := by omega
      have HLn := hid hLn
      have HDR := hid (bl_drew (Below.refl W.heap.size W))
      clear hLn
      go_enter Tryz.func37, Tryz.ntmps37
      go_wp2_with fail
      rw [← HW.out, ← Hb.out]
      go_region_held3 (fun w' => w'.cell? ⟨b + 1, 0, none⟩ = some (.int .i64 at_) ∧ (w'.cell? ⟨b, 0, none⟩ = some (.int .i64 k) ∧ w'.cell? ⟨b, 4, none⟩ = some (.slice (some ⟨g, o, none⟩) Ln c)) ∧ (w'.cell? ⟨g, o, none⟩ = some (.int .i64 k0) ∧ w'.cell? ⟨g, o + 1, none⟩ = some (.string S0) ∧ w'.cell? ⟨g, o + 2, none⟩ = some (.int .i64 n0) ∧ w'.cell? ⟨g, o + 3, none⟩ = some (.int .i64 t0) ∧ w'.cell? ⟨g, o + 4, none⟩ = some (.slice a0 l0 c0)) ∧ (w'.cell? ⟨g, o + 5, none⟩ = some (.int .i64 k1) ∧ w'.cell? ⟨g, o + 5 + 1, none⟩ = some (.string S1) ∧ w'.cell? ⟨g, o + 5 + 2, none⟩ = some (.int .i64 n1) ∧ w'.cell? ⟨g, o + 5 + 3, none⟩ = some (.int .i64 t1) ∧ w'.cell? ⟨g, o + 5 + 4, none⟩ = some (.slice a1 l1 c1))) (first | (exact ⟨by assumption, ⟨by assumption, by assumption⟩, ⟨by assumption, by assumption, by assumption, by assumption, by assumption⟩, ⟨by assumption, by assumption, by assumption, by assumption, by assumption⟩⟩) | go_keep) (first
        | (go_at_call 37; (with_reducible refine Calls.mono (HH0.out _ HDR.out) ?_); rintro e w2 ⟨⟨v, rfl, hv⟩, hb2⟩; have HB2 : Hid (Below W.heap.size W w2) := hid ⟨hb2.os, hb2.tape, hb2.output, hb2.size, hb2.block⟩; have HV2 := hid hv; obtain ⟨T2, X2, rfl⟩ := hv.iface; have f0 := (HC2.out.next HB2.out).cell 0 _ rfl; obtain ⟨f1, f2, f3, f4, f5⟩ := (HC1.out.next HB2.out).five; have qq : ∀ j, w2.cell? ⟨g, j, none⟩ = W.cell? ⟨g, j, none⟩ := (fun j => HB2.out.cell (p := ⟨g, j, none⟩) HGL.out); have r0 := (qq _).trans m0; have r1 := (qq _).trans m1; have r2 := (qq _).trans m2; have r3 := (qq _).trans m3; have r4 := (qq _).trans m4; have s0 := (qq _).trans p0; have s1 := (qq _).trans p1; have s2 := (qq _).trans p2; have s3 := (qq _).trans p3; have s4 := (qq _).trans p4; clear hv hb2 qq)
        | (go_at_call 37; (with_reducible refine Calls.mono (HH1.out _ HB2.out) ?_); rintro e w3 ⟨⟨v, rfl, hv⟩, hb3⟩; have HB3 := hid (HB2.out.trans (hb3.mono HB2.out.size)); have HV3 := hid hv; have HV23 := hid (HV2.out.next hb3); have HSZ := hid hb3.size; obtain ⟨T3, X3, rfl⟩ := hv.iface; have f10 := (HC2.out.next HB3.out).cell 0 _ rfl; obtain ⟨f11, f12, f13, f14, f15⟩ := (HC1.out.next HB3.out).five; have qq : ∀ j, w3.cell? ⟨g, j, none⟩ = W.cell? ⟨g, j, none⟩ := (fun j => HB3.out.cell (p := ⟨g, j, none⟩) HGL.out); have r10 := (qq _).trans m0; have r11 := (qq _).trans m1; have r12 := (qq _).trans m2; have r13 := (qq _).trans m3; have r14 := (qq _).trans m4; have s10 := (qq _).trans p0; have s11 := (qq _).trans p1; have s12 := (qq _).trans p2; have s13 := (qq _).trans p3; have s14 := (qq _).trans p4; clear hv hb3 qq))
      go_wp2_with fail
      refine poOf HPO.out ?_
      obtain ⟨hk1, hk2, hk3'⟩ := HKK.out
      have hLe := HLn.out
      have hsz : w.heap.size ≤ W.heap.size := HB.out.size
      have hsz2 : W.heap.size ≤ w2.heap.size := HB2.out.size
      have e0 : ks[0]'(by omega) = N0 := by have := HN0.out; rw [List.getElem?_eq_getElem (by omega)] at this; simpa using this
      have e1 : ks[1]'(by omega) = N1 := by have := HN1.out; rw [List.getElem?_eq_getElem (by omega)] at this; simpa using this
      refine ⟨⟨_, rfl, .inr (.inl ⟨hk1, hk2, _, _, by show 2 ≤ ks.length; omega, rfl, ?_, ?_⟩)⟩, HB.out.trans (HB3.out.mono HB.out.size)⟩
      · show NumR _ _ _ _ (ks[0]'_)
        rw [e0]
        exact HV23.out.mono (fun g _ hp => Nat.le_trans hsz hp)
      · show NumR _ _ _ _ (ks[1]'_)
        rw [e1]
        exact HV3.out.mono (fun g _ hp => Nat.le_trans (Nat.le_trans hsz hsz2) hp)
  · subst hk
    have H56 := hid (fun (u : World) (hu : Below W.heap.size W u) => numbers_ar d HI.out ks D a ks.length c u HA.out.2 (HK.out.next (HB.out.trans (hu.mono HB.out.size))))
    go_enter Tryz.func37, Tryz.ntmps37
    go_wp2_with fail
    rw [← HW.out, ← Hb.out]
    go_region_held3 (fun w' => w'.cell? ⟨b + 1, 0, none⟩ = some (.int .i64 at_) ∧ w'.cell? ⟨b, 4, none⟩ = some (.slice a ks.length c)) (first | (exact ⟨by assumption, by assumption⟩) | go_keep) (first
      | (go_at_call 56; refine Calls.mono (H56.out _ ⟨rfl, rfl, rfl, Nat.le_refl _, fun _ _ => rfl⟩) ?_; rintro e w2 ⟨⟨v, vs, rfl, hO, hN⟩, hb2⟩; have HB2 : Hid (Below W.heap.size W w2) := hid ⟨hb2.os, hb2.tape, hb2.output, hb2.size, hb2.block⟩; have HN := hid hN; obtain ⟨ng, nc, rfl, hcap, hgB, hgl, hcs⟩ := hO.at (by have := hN.1; omega); have HO := hid (And.intro hcap (And.intro hgB (And.intro hgl hcs))); have f0 := (HC2.out.next HB2.out).cell 0 _ rfl; have f4 := (HC1.out.next HB2.out).cell 4 _ rfl; clear hO hN hb2 hcap hgB hgl hcs))
    go_wp2_with fail
    refine poOf HPO.out ?_
    have hB2 := HB.out.trans (HB2.out.mono HB.out.size)
    obtain ⟨hcap, hgB, hgl, hcs⟩ := HO.out
    obtain ⟨hvl, hN⟩ := HN.out
    have hsz : w.heap.size ≤ W.heap.size := HB.out.size
    refine ⟨⟨_, rfl, .inr (.inr ⟨.inl rfl, ng, nc, by simp only [hvl]; rfl, ⟨hk0, by rw [hvl] at hcap; exact hcap⟩, hlm, hgl, by have : W.drew.heap.size ≤ ng := hgB; exact Nat.le_trans hsz this, fun i hi => ⟨vs[i]'(by have : i < ks.length := hi; omega), hcs i (by have : i < ks.length := hi; omega), (hN i hi (by have : i < ks.length := hi; omega)).mono (fun g _ hp => Nat.le_trans hsz hp)⟩⟩)⟩, hB2⟩
  · subst hk
    have H56 := hid (fun (u : World) (hu : Below W.heap.size W u) => numbers_ar d HI.out ks D a ks.length c u HA.out.2 (HK.out.next (HB.out.trans (hu.mono HB.out.size))))
    go_enter Tryz.func37, Tryz.ntmps37
    go_wp2_with fail
    rw [← HW.out, ← Hb.out]
    go_region_held3 (fun w' => w'.cell? ⟨b + 1, 0, none⟩ = some (.int .i64 at_) ∧ w'.cell? ⟨b, 4, none⟩ = some (.slice a ks.length c)) (first | (exact ⟨by assumption, by assumption⟩) | go_keep) (first
      | (go_at_call 56; refine Calls.mono (H56.out _ ⟨rfl, rfl, rfl, Nat.le_refl _, fun _ _ => rfl⟩) ?_; rintro e w2 ⟨⟨v, vs, rfl, hO, hN⟩, hb2⟩; have HB2 : Hid (Below W.heap.size W w2) := hid ⟨hb2.os, hb2.tape, hb2.output, hb2.size, hb2.block⟩; have HN := hid hN; obtain ⟨ng, nc, rfl, hcap, hgB, hgl, hcs⟩ := hO.at (by have := hN.1; omega); have HO := hid (And.intro hcap (And.intro hgB (And.intro hgl hcs))); have f0 := (HC2.out.next HB2.out).cell 0 _ rfl; have f4 := (HC1.out.next HB2.out).cell 4 _ rfl; clear hO hN hb2 hcap hgB hgl hcs))
    go_wp2_with fail
    refine poOf HPO.out ?_
    have hB2 := HB.out.trans (HB2.out.mono HB.out.size)
    obtain ⟨hcap, hgB, hgl, hcs⟩ := HO.out
    obtain ⟨hvl, hN⟩ := HN.out
    have hsz : w.heap.size ≤ W.heap.size := HB.out.size
    refine ⟨⟨_, rfl, .inr (.inr ⟨.inr rfl, ng, nc, by simp only [hvl]; rfl, ⟨hk0, by rw [hvl] at hcap; exact hcap⟩, hlm, hgl, by have : W.drew.heap.size ≤ ng := hgB; exact Nat.le_trans hsz this, fun i hi => ⟨vs[i]'(by have : i < ks.length := hi; omega), hcs i (by have : i < ks.length := hi; omega), (hN i hi (by have : i < ks.length := hi; omega)).mono (fun g _ hp => Nat.le_trans hsz hp)⟩⟩)⟩, hB2⟩

theorem numberOf_all : ∀ d, NoS d
  | 0 => fun _ _ _ _ _ _ h _ => h.elim
  | d + 1 => number_step d (numberOf_all d)

end Go.Proofs.YtbllaacbeagljaaGreatDoor
