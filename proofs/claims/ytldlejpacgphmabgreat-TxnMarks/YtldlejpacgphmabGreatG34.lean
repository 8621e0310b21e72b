/-
  TxnMarks: the law.
-/
import Derived.Test.YtldlejpacgphmabGreatG33
import Derived.Deep.DeepCutAuto
namespace Go.Proofs.YtldlejpacgphmabGreat
open Go.RowKit Go.Deep

theorem info70 : (Tryz.prog.info? 70).map (fun i => (i.zero, i.size, i.bytes)) = some (some (.slice none 0 0), 1, 24) := by kernel_rfl
/-- the lists of picks: where each lies, its room, its numbers -/
abbrev Pt := Option Addr × Nat × List Int
def PartsL (w : World) (pa : Option Addr) (Ps : List Pt) : Prop := ∀ (i : Nat) (q : Pt), Ps[i]? = some q → ∃ b off, pa = some ⟨b, off, none⟩ ∧ b < w.heap.size ∧ w.cell? ⟨b, off + i, none⟩ = some (.slice q.1 q.2.2.length q.2.1) ∧ IntL (fun k => w.heap.size ≤ k) w q.1 q.2.2
/-- how many picks the first i lists have -/
def totP (Ps : List Pt) (i : Nat) : Nat := ((Ps.take i).map (fun q => q.2.2.length)).sum
theorem totP_succ {Ps : List Pt} {i : Nat} {q : Pt} (h : Ps[i]? = some q) : totP Ps (i + 1) = totP Ps i + q.2.2.length := by
  unfold totP
  rw [List.take_add_one, h]
  simp
theorem totP_past {Ps : List Pt} {i : Nat} (h : Ps.length ≤ i) : totP Ps (i + 1) = totP Ps i := by
  unfold totP
  rw [List.take_of_length_le (by omega), List.take_of_length_le h]
theorem totP_mono {Ps : List Pt} (i : Nat) : totP Ps i ≤ totP Ps (i + 1) := by
  by_cases h : i < Ps.length
  · rw [totP_succ (List.getElem?_eq_getElem h)]; omega
  · rw [totP_past (by omega)]; omega
theorem Mz.mono {B : Nat} {w0 : World} {ob st j c p t x m : Nat} {oc : Array Value} {d : Pd} {s : Js} {S Kb S' Kb' : Nat} {ha : Option Addr} {hc : Nat} {mv : Value} {M R : Nat} {w : World} (h : Mz B w0 ob st j c p t x m oc d s S Kb ha hc mv M R w) (hS : S ≤ S') (hK : Kb ≤ Kb') : Mz B w0 ob st j c p t x m oc d s S' Kb' ha hc mv M R w := by
  obtain ⟨Y, K, n, a, ss, ms, val, gs, h1, ⟨e1, e2, e3, e4⟩, h3⟩ := h
  exact ⟨Y, K, n, a, ss, ms, val, gs, h1, ⟨e1, by omega, by omega, by omega⟩, h3⟩
theorem Mz.back2 {B : Nat} {w0 : World} {ob st j c p t x m : Nat} {oc : Array Value} {d : Pd} {s : Js} {S Kb : Nat} {ha : Option Addr} {hc : Nat} {mg mc : Nat} {M : Nat} {w : World} (h : Mz B w0 ob st j c p t x m oc d s S Kb ha hc (.slice (some ⟨mg, 0, none⟩) M mc) M M w) (hon : d.off = false) (hM : M ≤ 1073741823) (hS : S ≤ 134217728) (k : Nat) (hk : k < M) :
    ∃ va vc, (M ≤ mc ∧ mc ≤ maxLen) ∧ Calls Tryz.prog 33 #[.pointer (some ⟨t, 0, none⟩), .int .i64 (k : Int)] w fun e w' => e = .returned (.int .i64 0) ∧ w'.cell? ⟨mg, k, none⟩ = some (.slice va 4 vc) ∧ Mz B w0 ob st j c p t x m oc d s S Kb va vc (.slice (some ⟨mg, 0, none⟩) (k + 1) mc) (k + 1) (k + 1) w' := by
  obtain ⟨mg', mc', va, vc, hmv, hmc, hbk⟩ := h.back hon hM hS k hk
  obtain ⟨rfl, rfl⟩ : mg = mg' ∧ mc = mc' := by
    injection hmv with q1 _ q2
    injection q1 with q1
    injection q1 with q1
    exact ⟨q1, q2⟩
  exact ⟨va, vc, hmc, hbk⟩
theorem Mz.row {B : Nat} {w0 : World} {ob st j c p t x m : Nat} {oc : Array Value} {d : Pd} {s : Js} {S Kb : Nat} {ha : Option Addr} {hc : Nat} {mv : Value} {M R : Nat} {w : World} (h : Mz B w0 ob st j c p t x m oc d s S Kb ha hc mv M R w) : ∃ gs, w.ownsRow B 70 1 mv R gs := by
  obtain ⟨Y, K, n, a, ss, ms, val, gs, h1, h2, h3, h4, h5⟩ := h
  exact ⟨gs, h4⟩

set_option maxRecDepth 100000 in
set_option maxHeartbeats 16000000 in
theorem marks_law (pa : Option Addr) (pc : Nat) (Ps : List Pt) (ba : Option Addr) (bc : Nat) (Bs : List Int) (w0 : World) (hP : PartsL w0 pa Ps) (hBk : IntL (fun k => w0.heap.size ≤ k) w0 ba Bs) (hN1 : Ps.length ≤ 1048576) (hN2 : Bs.length ≤ 1048576) (hT : ∀ i, totP Ps i ≤ 1048576) :
    Calls Tryz.prog 5 #[.slice pa Ps.length pc, .slice ba Bs.length bc] w0 fun e w' => e = .returned (.bool true) ∧ Below w0.heap.size w0 w' := by
  obtain ⟨PO, hPO⟩ : ∃ PO : Ending → World → Prop, PO = fun e w' => e = .returned (.bool true) ∧ Below w0.heap.size w0 w' := ⟨_, rfl⟩
  rw [← hPO]
  obtain ⟨B, hB⟩ : ∃ B, B = w0.heap.size := ⟨_, rfl⟩
  obtain ⟨i70, hi7, hz7, hs7, hb7⟩ := info_parts info70
  obtain ⟨NP, e1⟩ : ∃ n, n = Ps.length := ⟨_, rfl⟩
  obtain ⟨NB, e2⟩ : ∃ n, n = Bs.length := ⟨_, rfl⟩
  rw [← e1, ← e2]
  have hNP : NP ≤ 1048576 := by omega
  have hNB : NB ≤ 1048576 := by omega
  have HPt : Hid (∀ i, i < NP → ∃ b off qa qn qc qs, pa = some ⟨b, off, none⟩ ∧ (∀ w', Below B w0 w' → w'.cell? ⟨b, off + i, none⟩ = some (.slice qa qn qc)) ∧ qn = qs.length ∧ IntL (fun k => B ≤ k) w0 qa qs ∧ totP Ps (i + 1) = totP Ps i + qs.length) := fun i hi => by
    obtain ⟨q, hq⟩ : ∃ q, Ps[i]? = some q := ⟨_, List.getElem?_eq_getElem (by omega)⟩
    obtain ⟨b, off, r1, r2, r3, r4⟩ := hP i q hq
    exact ⟨b, off, q.1, _, q.2.1, q.2.2, r1, fun w' hb => (hb.cell (p := ⟨b, off + i, none⟩) (by show b < _; omega)).trans r3, rfl, by rw [hB]; exact r4, totP_succ hq⟩
  have HBs : Hid (∀ w', Below B w0 w' → ∀ i, i < NB → ∃ b off v, ba = some ⟨b, off, none⟩ ∧ w'.cell? ⟨b, off + i, none⟩ = some (.int .i64 v)) := fun w' hb i hi => by
    obtain ⟨v, hv⟩ : ∃ v, Bs[i]? = some v := ⟨_, List.getElem?_eq_getElem (by omega)⟩
    obtain ⟨b, off, r1, r2, r3, r4⟩ := hBk i v hv
    exact ⟨b, off, v, r1, (hb.cell (p := ⟨b, off + i, none⟩) (by show b < _; omega)).trans r4⟩
  have HPast : Hid (∀ i, totP Ps i ≤ totP Ps (i + 1)) := fun i => totP_mono i
  have HT := hid hT
  have HRt : Hid (Calls Tryz.prog 24 #[.agg #[.int .i64 0, .int .i64 16, .int .i64 4]] w0 fun e w' => e = .returned (.agg #[.int .i64 0, .int .i64 16, .int .i64 5]) ∧ Below w0.heap.size w0 w') := by
    have h := right_any 0 16 4 w0
    rw [show into 10 0 = 0 by decide, show into 16 16 = 0 by decide, show into 9 4 = 4 by decide] at h
    exact h
  have HOp : Hid (∀ w1, Calls Tryz.prog 25 #[.agg #[.int .i64 0, .int .i64 16, .int .i64 5]] w1 (OpP w1 22 0 16)) := fun w1 => open5_any 0 16 5 0 16 6 22 (by decide) (by decide) (by decide) (by decide) w1
  have HFin : Hid (∀ w', Below B w0 w' → PO (.returned (.bool true)) w') := fun w' hb => by
    rw [hPO]
    exact ⟨rfl, hB ▸ hb⟩
  obtain ⟨home, hhome⟩ : ∃ home, home = (⟨zeros (512 * 22), [], -1, false⟩ : Pd).read := ⟨_, rfl⟩
  have HH := hid hhome
  have HB := hid hB
  clear hP hBk hN1 hN2 hT e1 e2 hPO hB hhome
  go_enter Tryz.func5, Tryz.ntmps5
  go_wp2_with fail
  refine Calls.mono HRt.out ?_
  rintro e w1 ⟨rfl, b1⟩
  have HB1 := hid b1
  obtain ⟨w2, hw2⟩ : ∃ w2, w2 = w1.alloc (.cells #[.int .i64 0, .int .i64 16, .int .i64 5] 65) := ⟨_, rfl⟩
  have HW2 := hid hw2
  have k20 : w2.cell? ⟨w1.heap.size, 0, none⟩ = some (.int .i64 0) := by rw [hw2]; exact cell_new rfl 0 _ rfl
  have k21 : w2.cell? ⟨w1.heap.size, 1, none⟩ = some (.int .i64 16) := by rw [hw2]; exact cell_new rfl 1 _ rfl
  have z2 : w1.heap.size < w2.heap.size := by rw [hw2]; simp
  have HC2 : Hid (∀ w', Below w2.heap.size w2 w' → w'.cell? ⟨w1.heap.size, 0, none⟩ = some (.int .i64 0) ∧ w'.cell? ⟨w1.heap.size, 1, none⟩ = some (.int .i64 16)) := fun w' hb => ⟨(hb.cell (p := ⟨w1.heap.size, 0, none⟩) z2).trans k20, (hb.cell (p := ⟨w1.heap.size, 1, none⟩) z2).trans k21⟩
  have HB2 : Hid (Below w0.heap.size w0 w2 ∧ w0.heap.size ≤ w2.heap.size) := by
    have b2 : Below w1.heap.size w1 w2 := by rw [hw2]; exact (Below.refl _ _).alloc (Nat.le_refl _) _
    have hs := b1.size
    exact ⟨b1.trans (b2.mono hs), by omega⟩
  clear HRt b1 hw2 k20 k21 z2 HB1
  go_wp2_with fail
  rw [← HW2.out]
  refine Calls.mono (HOp.out w2) ?_
  intro e w3 hO
  obtain ⟨ob, st, j, c, p, Y, oc, d, s, rfl, oa, ol, oy, oc1, hA, hfu, hon, hY, b3⟩ : ∃ ob st j c p Y oc d s, e = .returned (.tuple #[.pointer (some ⟨ob, 0, none⟩), .bool true]) ∧ w3.heap[ob]? = some (.cells oc 80 (0, 0)) ∧ ob < w3.heap.size ∧ ¬ Y ob ∧ oc[1]? = some (.pointer (some ⟨st, 0, none⟩)) ∧ StA Y w3 j c p st 22 0 0 16 d s ∧ d.fu = -1 ∧ On d s 22 0 16 0 (⟨zeros (512 * 22), [], -1, false⟩ : Pd).read [] ∧ (∀ k, Y k → w2.heap.size ≤ k ∧ k < w3.heap.size) ∧ Below w2.heap.size w2 w3 := by
    obtain ⟨ob, p, st, rb, j, c, Z, d, s, lv, h1, ⟨a1, a2, a3, a4, a5, a6⟩, h3, h4, h5, h6, h7, ⟨b1, b2, _⟩, h9, _, h11⟩ := hO
    refine ⟨ob, st, j, c, p, fun k => Z k ∨ k = st, _, d, s, h1, h3, a4, fun q => q.elim b2 (fun q => by omega), rfl, ⟨Z, h4, fun k q => .inl q, h7, b1, .inr rfl⟩, h5, h6, fun k q => ?_, h11⟩
    rcases q with q | q
    · exact h9 k q
    · omega
  rw [← HH.out] at hon
  obtain ⟨k30, k31⟩ := HC2.out w3 b3
  have o3 : w3.cell? ⟨ob, 1, none⟩ = some (.pointer (some ⟨st, 0, none⟩)) := by simp [World.cell?, oa, oc1]
  have hpl := hon.puts (by omega) (by omega) (by omega)
  have hdoff := hon.on
  have HRd := hid (hA.reads (by omega) hdoff (by omega) (by omega) 16 4 (by omega) (by omega) (by omega))
  have HOn := hid (And.intro hfu hon)
  have HO3 := hid (And.intro oa (And.intro ol (And.intro oy (And.intro hY b3))))
  have HOc := hid oc1
  have HDo := hid (And.intro hdoff hpl)
  clear hO oa ol oy hA hfu hon hY b3 HC2 HOp HH hpl hdoff oc1
  go_wp2_with fail
  refine Calls.mono HRd.out ?_
  rintro e w4 ⟨lv, Y4, rfl, O4, A4, n4, l4, G4, b4⟩
  obtain ⟨ha, hc, rfl⟩ := own_slice O4
  have o4 : w4.cell? ⟨ob, 1, none⟩ = some (.pointer (some ⟨st, 0, none⟩)) := (b4.cell (p := ⟨ob, 1, none⟩) HO3.out.2.1 HO3.out.2.2.1).trans o3
  have HBg := hid (A4.begin HDo.out.1)
  have H4 := hid (And.intro O4 (And.intro n4 (And.intro l4 (And.intro G4 b4))))
  clear O4 A4 n4 l4 G4 b4 HRd k30 k31 o3
  go_wp2_with fail
  refine Calls.mono HBg.out ?_
  rintro e w5 ⟨t, x, m, rfl, T5, b5⟩
  have H5 : Hid (Mz B w0 ob st j c p t x m oc d s (totP Ps 0) (4 + totP Ps 0 + 4 * 0) ha hc (.slice none 0 0) 0 0 w5) := by
    obtain ⟨O4, n4, l4, G4, b4⟩ := H4.out
    obtain ⟨oa, ol, oy, hY, b3⟩ := HO3.out
    have s3 := b3.size
    have s4 := b4.size
    have s5 := b5.size
    have hB2 := HB2.out.2
    have hBe := HB.out
    have B3 : Below B w0 w3 := by rw [hBe]; exact HB2.out.1.trans (b3.mono (by omega))
    have B4 : Below B w0 w4 := below_but B3 b4 (fun k q => by have := hY k q; omega) hBe
    have hY4 : ∀ k, Y4 k → B ≤ k := fun k q => by
      rcases Nat.lt_or_ge k w3.heap.size with e | e
      · have := hY k (G4 k e q); omega
      · omega
    have oy4 : ¬ Y4 ob := fun q => oy (G4 ob ol q)
    rw [strs_reads] at O4
    have hnow : NowL Y4 w4 (fun i => jread d s (16 + i)) ha hc (fun _ => none) := NowL.of_row (by exact O4) n4 (fun _ _ => rfl)
    have hnow5 := hnow.keep b5 (fun k _ q _ => q) (grow.gr Y4 w4 w5) rfl
    refine ⟨grow Y4 w4 w5, 0 + 4, 0, fun _ => none, [], [], fun _ => [], [], T5.stm, ⟨rfl, by simp, by simp, by simp [totP]⟩, hnow5, ⟨rfl, .inl ⟨rfl, rfl⟩⟩, fun g e => by simp [Value.ownBlock] at e, fun i pp b e => by simp at e, ⟨(b5.block ob (by omega) oy4).trans ((b4.block ob ol oy).trans oa), fun q => oy4 (grow.gr Y4 w4 w5 ob (by omega) q)⟩, fun k q => ?_, below_but B4 b5 hY4 hBe, hBe⟩
    rcases q with q | q
    · exact ⟨hY4 k q.1, by omega⟩
    · have := B4.size; exact ⟨by omega, q.2⟩
  clear HBg H4 T5 b5 HO3 HB2 HW2 o4
  go_wp2_with fail
  go_loopw [7, 9, 12, 13] (fun okv nv mv iv wr => ∃ (i : Nat) (ha : Option Addr) (hc : Nat) (ma : Option Addr) (mc M : Nat), i ≤ 1048576 ∧ okv = .bool true ∧ nv = .slice ha 4 hc ∧ mv = .slice ma M mc ∧ iv = .int .i64 (i : Int) ∧ M ≤ i ∧ Mz B w0 ob st j c p t x m oc d s (totP Ps i) (4 + totP Ps i + 4 * i) ha hc (.slice ma M mc) M M wr) (fun _ _ _ iv _ => 1048577 - (intOf iv).toNat)
  case atStart => exact ⟨0, ha, hc, none, 0, 0, by omega, rfl, rfl, rfl, rfl, by omega, H5.out⟩
  case round =>
    clear H5
    rename World => wo
    obtain ⟨i, ga, gc, ma, mc, M, hiN, rfl, rfl, rfl, rfl, hMi, hz⟩ := hrel
    have hT1 := HT.out i
    have hT2 := HT.out (i + 1)
    have HTm := hid (HPast.out i)
    by_cases hA : i < NP
    · have hA' : (i : Int) < (NP : Int) := by omega
      have hi1 : i + 1 ≤ 1048576 := by omega
      obtain ⟨pb, po, qa, qn, qc, qs, rfl, hq1, hqn, hq2, hq3⟩ := HPt.out i hA
      have HQ := hid (And.intro hqn (And.intro hq2 (And.intro hq3 hq1)))
      have HMk := hid (hz.mark HDo.out.1 (by omega))
      clear hz hqn hq2 hq3 hq1
      go_wp2_with fail
      refine Calls.mono HMk.out ?_
      rintro e u6 ⟨rfl, hz6⟩
      obtain ⟨gs, hgs⟩ := hz6.row
      have bA : Below u6.heap.size u6 (u6.alloc (.cells #[.slice ga 4 gc] 70)) := (Below.refl _ _).alloc (Nat.le_refl _) _
      have HRow := hid (owns_below hgs bA)
      have HApp : Hid (∀ u7 g4 cap4, u7.ownsRow B 70 1 (.slice (some ⟨g4, 0, none⟩) (M + 1) cap4) (M + 1) (gs ++ [.slice ga 4 gc]) → (u6.alloc (.cells #[.slice ga 4 gc] 70)).grownBy u7 (Value.slice ma M mc).ownBlock → ((Value.slice ma M mc).ownBlock = some g4 ∨ g4 = u6.heap.size + 1) → Mz B w0 ob st j c p t x m oc d s (totP Ps i) (4 + totP Ps i + 4 * i) ga gc (.slice (some ⟨g4, 0, none⟩) (M + 1) cap4) (M + 1) (M + 1) u7) := fun u7 g4 cap4 r1 r2 r3 => hz6.app bA (owns_below hgs bA) r1 r2 (r3.imp id (fun e => by omega))
      have hBs : B ≤ u6.heap.size := by have := hz6.cell.2.size; have := HB.out; omega
      have HBl := hid hz6.cell.2
      clear hz6 hgs bA HMk
      go_wp2_with (at_builtin; refine wpList_append_lies _ rfl _ _ _ rfl B 70 i70 (.slice none 0 0) 1 24 Tryz.underlying89 hi7 hz7 hs7 hb7 rfl (by decide) _ M _ rfl (by exact HRow.out) ⟨u6.heap.size, 0, none⟩ 1 1 [.slice ga 4 gc] rfl rfl (by exact news1 u6 _ _) (by intro u hu; simp at hu; subst hu; rfl) (by decide) (by unfold maxLen; omega) (by omega) (by simp; omega) (u6.heap.size + 1) (by simp) ?_; intro g4 cap4 u7 ho4 hg4 hlie4 _; have HZ7 := hid (HApp.out u7 g4 cap4 ho4 hg4 hlie4); have hq1 := HQ.out.2.2.2 u7 HZ7.out.cell.2; clear ho4 hg4 hlie4 HApp HRow)
      obtain ⟨hqn, hq2, hq3, _⟩ := HQ.out
      have HWr := hid (HZ7.out.wrote HDo.out.1 (by have := HDo.out.2; omega) (by omega) qa qc qs hq2 (by omega) (totP Ps i + qs.length) (4 + totP Ps i + 4 * i + qs.length) rfl rfl)
      rw [← hqn] at HWr
      have hT3 : totP Ps i + qn ≤ 1048576 := by omega
      have HTm := hid (show totP Ps i + qn ≤ totP Ps (i + 1) by omega)
      clear hq2 hq3 hqn HQ HZ7
      go_wp2_with fail
      refine Calls.mono HWr.out ?_
      rintro e u8 ⟨na, nc, rfl, hz8⟩
      clear HWr hq1
      by_cases hB1 : i < NB
      · have hB1' : (i : Int) < (NB : Int) := by omega
        obtain ⟨bb, bo, v, rfl, hbv⟩ := HBs.out u8 hz8.cell.2 i hB1
        have hMp : (0 : Int) < ((M : Int) + 1) := by omega
        have hMn : ¬ ((M : Int) + 1) = 0 := by omega
        by_cases hv : 0 ≤ v
        · obtain ⟨k, hk⟩ : ∃ k : Nat, v.tmod ((M : Int) + 1) = (k : Int) := ⟨(v.tmod ((M : Int) + 1)).toNat, by have := Int.tmod_nonneg ((M : Int) + 1) hv; omega⟩
          have hkM : k < (M + 1) := by have := Int.tmod_lt_of_pos v hMp; omega
          obtain ⟨va, vc, hmc, hbk⟩ := hz8.back2 HDo.out.1 (by omega) (by omega) k hkM
          have HBk := hid hbk
          have hk1 : k + 1 ≤ cap4 := by omega
          have hcx : cap4 ≤ 9223372036854775807 := by have := hmc.2; unfold maxLen at this; omega
          have hc0 : ¬ cap4 = 0 := by omega
          clear hbk hz8 hmc
          go_wp2_with fail
          refine Calls.mono HBk.out ?_
          rintro e v3 ⟨rfl, hcell, hz3⟩
          have HNo := hid (hz3.backNo HDo.out.1 (k + 1) (by omega))
          rw [show ((k + 1 : Nat) : Int) = (k : Int) + 1 by omega] at HNo
          clear HBk hz3 hbv
          go_wp2_with fail
          refine Calls.mono HNo.out ?_
          rintro e v4 ⟨rfl, hz4⟩
          clear HNo hcell
          have o1 : v4.cell? ⟨ob, 1, none⟩ = some (.pointer (some ⟨st, 0, none⟩)) := by rw [hz4.cell.1]; exact HOc.out
          have HRd := hid (hz4.reads HDo.out.1 (by have := HDo.out.2; omega) (by omega) ((4 + totP Ps i + 4 * i + qn) + 4) rfl)
          have HMb := hid (show (k + 1) ≤ i + 1 by omega)
          clear hz4 
          go_wp2_with fail
          refine Calls.mono HRd.out ?_
          rintro e v1 ⟨ra, rc, rfl, hs⟩
          have HSm := hid hs
          clear HRd hs o1
          go_wp2_with fail
          refine Calls.mono HSm.out ?_
          rintro e v2 ⟨rfl, hz9⟩
          have HL := hid (hz9.mono (S' := totP Ps (i + 1)) (Kb' := 4 + totP Ps (i + 1) + 4 * (i + 1)) (by have := HTm.out; omega) (by have := HTm.out; omega))
          clear HSm hz9
          go_wp2_with fail
          exact ⟨⟨i + 1, va, vc, (some ⟨g4, 0, none⟩), cap4, (k + 1), by omega, rfl, rfl, rfl, by simp, HMb.out, HL.out⟩, by first | omega | (simp [intOf]; omega)⟩
        · have hv' : ¬ (v ≥ 0) := by omega
          have o1 : u8.cell? ⟨ob, 1, none⟩ = some (.pointer (some ⟨st, 0, none⟩)) := by rw [hz8.cell.1]; exact HOc.out
          have HRd := hid (hz8.reads HDo.out.1 (by have := HDo.out.2; omega) (by omega) ((4 + totP Ps i + 4 * i + qn) + 4) rfl)
          have HMb := hid (show (M + 1) ≤ i + 1 by omega)
          clear hz8 
          go_wp2_with fail
          refine Calls.mono HRd.out ?_
          rintro e v1 ⟨ra, rc, rfl, hs⟩
          have HSm := hid hs
          clear HRd hs o1
          go_wp2_with fail
          refine Calls.mono HSm.out ?_
          rintro e v2 ⟨rfl, hz9⟩
          have HL := hid (hz9.mono (S' := totP Ps (i + 1)) (Kb' := 4 + totP Ps (i + 1) + 4 * (i + 1)) (by have := HTm.out; omega) (by have := HTm.out; omega))
          clear HSm hz9
          go_wp2_with fail
          exact ⟨⟨i + 1, na, nc, (some ⟨g4, 0, none⟩), cap4, (M + 1), by omega, rfl, rfl, rfl, by simp, HMb.out, HL.out⟩, by first | omega | (simp [intOf]; omega)⟩
      · have hB1' : ¬ (i : Int) < (NB : Int) := by omega
        have o1 : u8.cell? ⟨ob, 1, none⟩ = some (.pointer (some ⟨st, 0, none⟩)) := by rw [hz8.cell.1]; exact HOc.out
        have HRd := hid (hz8.reads HDo.out.1 (by have := HDo.out.2; omega) (by omega) ((4 + totP Ps i + 4 * i + qn) + 4) rfl)
        have HMb := hid (show (M + 1) ≤ i + 1 by omega)
        clear hz8 
        go_wp2_with fail
        refine Calls.mono HRd.out ?_
        rintro e v1 ⟨ra, rc, rfl, hs⟩
        have HSm := hid hs
        clear HRd hs o1
        go_wp2_with fail
        refine Calls.mono HSm.out ?_
        rintro e v2 ⟨rfl, hz9⟩
        have HL := hid (hz9.mono (S' := totP Ps (i + 1)) (Kb' := 4 + totP Ps (i + 1) + 4 * (i + 1)) (by have := HTm.out; omega) (by have := HTm.out; omega))
        clear HSm hz9
        go_wp2_with fail
        exact ⟨⟨i + 1, na, nc, (some ⟨g4, 0, none⟩), cap4, (M + 1), by omega, rfl, rfl, rfl, by simp, HMb.out, HL.out⟩, by first | omega | (simp [intOf]; omega)⟩
    · have hA' : ¬ (i : Int) < (NP : Int) := by omega
      by_cases hB1 : i < NB
      · have hB1' : (i : Int) < (NB : Int) := by omega
        have hi1 : i + 1 ≤ 1048576 := by omega
        obtain ⟨bb, bo, v, rfl, hbv⟩ := HBs.out wo hz.cell.2 i hB1
        by_cases hM0 : M = 0
        · have hM0' : (M : Int) = 0 := by omega
          subst hM0
          have o1 : wo.cell? ⟨ob, 1, none⟩ = some (.pointer (some ⟨st, 0, none⟩)) := by rw [hz.cell.1]; exact HOc.out
          have HRd := hid (hz.reads HDo.out.1 (by have := HDo.out.2; omega) (by omega) ((4 + totP Ps i + 4 * i) + 4) rfl)
          have HMb := hid (show 0 ≤ i + 1 by omega)
          clear hz 
          go_wp2_with fail
          refine Calls.mono HRd.out ?_
          rintro e v1 ⟨ra, rc, rfl, hs⟩
          have HSm := hid hs
          clear HRd hs o1
          go_wp2_with fail
          refine Calls.mono HSm.out ?_
          rintro e v2 ⟨rfl, hz9⟩
          have HL := hid (hz9.mono (S' := totP Ps (i + 1)) (Kb' := 4 + totP Ps (i + 1) + 4 * (i + 1)) (by have := HTm.out; omega) (by have := HTm.out; omega))
          clear HSm hz9
          go_wp2_with fail
          exact ⟨⟨i + 1, ga, gc, ma, mc, 0, by omega, rfl, rfl, rfl, by simp, HMb.out, HL.out⟩, by first | omega | (simp [intOf]; omega)⟩
        · obtain ⟨mg, rfl⟩ : ∃ mg, ma = some ⟨mg, 0, none⟩ := by
            obtain ⟨gs, hgs⟩ := hz.row
            rcases hgs.2 with ⟨_, q⟩ | ⟨g, cap, _, q, _⟩
            · omega
            · injection q with q; exact ⟨g, q⟩
          have hMp : (0 : Int) < (M : Int) := by omega
          have hMn : ¬ (M : Int) = 0 := by omega
          by_cases hv : 0 ≤ v
          · obtain ⟨k, hk⟩ : ∃ k : Nat, v.tmod (M : Int) = (k : Int) := ⟨(v.tmod (M : Int)).toNat, by have := Int.tmod_nonneg (M : Int) hv; omega⟩
            have hkM : k < M := by have := Int.tmod_lt_of_pos v hMp; omega
            obtain ⟨va, vc, hmc, hbk⟩ := hz.back2 HDo.out.1 (by omega) (by omega) k hkM
            have HBk := hid hbk
            have hk1 : k + 1 ≤ mc := by omega
            have hcx : mc ≤ 9223372036854775807 := by have := hmc.2; unfold maxLen at this; omega
            have hc0 : ¬ mc = 0 := by omega
            clear hbk hz hmc
            go_wp2_with fail
            refine Calls.mono HBk.out ?_
            rintro e v3 ⟨rfl, hcell, hz3⟩
            have HNo := hid (hz3.backNo HDo.out.1 (k + 1) (by omega))
            rw [show ((k + 1 : Nat) : Int) = (k : Int) + 1 by omega] at HNo
            clear HBk hz3 hbv
            go_wp2_with fail
            refine Calls.mono HNo.out ?_
            rintro e v4 ⟨rfl, hz4⟩
            clear HNo hcell
            have o1 : v4.cell? ⟨ob, 1, none⟩ = some (.pointer (some ⟨st, 0, none⟩)) := by rw [hz4.cell.1]; exact HOc.out
            have HRd := hid (hz4.reads HDo.out.1 (by have := HDo.out.2; omega) (by omega) ((4 + totP Ps i + 4 * i) + 4) rfl)
            have HMb := hid (show (k + 1) ≤ i + 1 by omega)
            clear hz4 
            go_wp2_with fail
            refine Calls.mono HRd.out ?_
            rintro e v1 ⟨ra, rc, rfl, hs⟩
            have HSm := hid hs
            clear HRd hs o1
            go_wp2_with fail
            refine Calls.mono HSm.out ?_
            rintro e v2 ⟨rfl, hz9⟩
            have HL := hid (hz9.mono (S' := totP Ps (i + 1)) (Kb' := 4 + totP Ps (i + 1) + 4 * (i + 1)) (by have := HTm.out; omega) (by have := HTm.out; omega))
            clear HSm hz9
            go_wp2_with fail
            exact ⟨⟨i + 1, va, vc, (some ⟨mg, 0, none⟩), mc, (k + 1), by omega, rfl, rfl, rfl, by simp, HMb.out, HL.out⟩, by first | omega | (simp [intOf]; omega)⟩
          · have hv' : ¬ (v ≥ 0) := by omega
            have o1 : wo.cell? ⟨ob, 1, none⟩ = some (.pointer (some ⟨st, 0, none⟩)) := by rw [hz.cell.1]; exact HOc.out
            have HRd := hid (hz.reads HDo.out.1 (by have := HDo.out.2; omega) (by omega) ((4 + totP Ps i + 4 * i) + 4) rfl)
            have HMb := hid (show M ≤ i + 1 by omega)
            clear hz 
            go_wp2_with fail
            refine Calls.mono HRd.out ?_
            rintro e v1 ⟨ra, rc, rfl, hs⟩
            have HSm := hid hs
            clear HRd hs o1
            go_wp2_with fail
            refine Calls.mono HSm.out ?_
            rintro e v2 ⟨rfl, hz9⟩
            have HL := hid (hz9.mono (S' := totP Ps (i + 1)) (Kb' := 4 + totP Ps (i + 1) + 4 * (i + 1)) (by have := HTm.out; omega) (by have := HTm.out; omega))
            clear HSm hz9
            go_wp2_with fail
            exact ⟨⟨i + 1, ga, gc, (some ⟨mg, 0, none⟩), mc, M, by omega, rfl, rfl, rfl, by simp, HMb.out, HL.out⟩, by first | omega | (simp [intOf]; omega)⟩
      · have hB1' : ¬ (i : Int) < (NB : Int) := by omega
        have HCm := hid (hz.commit HOn.out.2 HOn.out.1 (by omega))
        clear hz
        go_wp2_with fail
        refine Calls.mono HCm.out ?_
        rintro e v1 ⟨rfl, o1, hr⟩
        rw [HOc.out] at o1
        have HRd := hid hr
        clear HCm hr
        go_wp2_with fail
        refine Calls.mono HRd.out ?_
        rintro e v2 ⟨va, vc, rfl, hs⟩
        have HSm := hid hs
        clear HRd hs o1
        go_wp2_with fail
        refine Calls.mono HSm.out ?_
        rintro e v3 ⟨rfl, hb⟩
        have FIN := hid (HFin.out v3 hb)
        clear HSm hb
        go_wp2_with fail
        exact FIN.out

end Go.Proofs.YtldlejpacgphmabGreat
