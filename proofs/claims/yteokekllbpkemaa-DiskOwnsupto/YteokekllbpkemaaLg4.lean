/-
  The Ledger: Own.
-/
import Derived.Test.YteokekllbpkemaaLg3
import Derived.Deep.RegionLaw
import Derived.Test.YteokekllbpkemaaCpi
namespace Go.Proofs.Yteokekllbpkemaa
open Go.RowKit

/-- the ledger between two calls -/
def Ldg (κ : Nat → Nat) (w : World) (q cnt tot nK : Nat) : Prop := ∃ n fr wa ke ma fv hv kv ms Z K, n ≤ 2 ∧ Lg κ w q cnt tot 0 n n nK nK fr wa ke ma fv hv kv ms Z K ∧ Hs4 κ w n hv Z ∧ Hk4 nK K ms ∧ ∀ i, i < n → (Z i).length ≤ 16777216
theorem Ldg.keep {κ κ' : Nat → Nat} {w w' : World} {q cnt tot nK : Nat} (h : Ldg κ w q cnt tot nK) {T : Nat → Prop} (kp : Kt κ T w w') (hT : ∀ t, 20 ≤ t → ¬ T t) (hκ : ∀ g, g < w.heap.size → 20 ≤ κ g → κ' g = κ g) : Ldg κ' w' q cnt tot nK := by
  obtain ⟨n, fr, wa, ke, ma, fv, hv, kv, ms, Z, K, h1, h2, h3, h4⟩ := h
  exact ⟨n, fr, wa, ke, ma, fv, hv, kv, ms, Z, K, h1, h2.keep kp hT hκ, h3.keep kp (hT _ (by omega)) (fun g hg e => (hκ g hg (by omega)).trans e), h4⟩
theorem Ldg.holds {κ : Nat → Nat} {w : World} {q cnt tot nK : Nat} (h : Ldg κ w q cnt tot nK) (hnK : nK ≤ 134217728) :
    Calls Try.prog 18 #[.pointer (some ⟨q, 0, none⟩)] w fun e w' => e = .returned (.bool true) ∧ Below w.heap.size w w' := by
  obtain ⟨n, fr, wa, ke, ma, fv, hv, kv, ms, Z, K, h1, h2, h3, h4, h5⟩ := h
  exact LHolds_any h2 h3 h4 (by omega) (fun i hi => by have := h5 i hi; omega) hnK
theorem Ldg.new {κ : Nat → Nat} {w : World} {q : Nat} (h : Lgb w q 0 0 (.slice none 0 0) (.slice none 0 0) (.slice none 0 0) (.slice none 0 0)) (hk : κ q = 20) : Ldg κ w q 0 0 0 :=
  ⟨0, _, _, _, _, [], [], [], [], fun _ => [], fun _ => [], by omega, ⟨h, hk, ⟨rfl, .inl ⟨rfl, rfl⟩⟩, (fun g e => by cases e), ⟨rfl, .inl ⟨rfl, rfl⟩⟩, (fun g e => by cases e), ⟨rfl, .inl ⟨rfl, rfl⟩⟩, (fun g e => by cases e), ⟨rfl, .inl ⟨rfl, rfl⟩⟩, (fun g e => by cases e), (fun i _ h2 => by omega), fun j hj => by omega⟩, (fun i hi => by omega), (fun j hj => by omega), fun i hi => by omega⟩
def upZ (Z : Nat → List Int) (n : Nat) (zs : List Int) (j : Nat) : List Int := if j = n then zs else Z j
theorem Hs4.one {κ κ' : Nat → Nat} {T : Nat → Prop} {w w' : World} {n : Nat} {hv : List Value} {Z : Nat → List Int} (h : Hs4 κ w n hv Z) (hl : hv.length = n) (kp : Kt κ T w w') (hT : ¬ T 40) (hκ : ∀ g, g < w.heap.size → κ g = 40 → κ' g = 40) {v : Value} {zs : List Int} (hz : Sl4 κ w v zs) : Hs4 κ' w' (n + 1) (hv ++ [v]) (upZ Z n zs) := by
  intro i hi
  unfold upZ
  by_cases e : i < n
  · rw [List.getD_eq_getElem?_getD, List.getElem?_append_left (by omega), ← List.getD_eq_getElem?_getD, if_neg (by omega)]
    exact (h i e).keep kp hT hκ
  · obtain rfl : i = n := by omega
    rw [List.getD_eq_getElem?_getD, List.getElem?_append_right (by omega), hl, Nat.sub_self, if_pos rfl]
    exact hz.keep kp hT hκ
def cut4 (κ : Nat → Nat) (S y : Nat) : Nat := if y < S then κ y else 40
theorem cut4_lo {κ : Nat → Nat} {S y : Nat} (h : y < S) : cut4 κ S y = κ y := if_pos h
theorem cut4_hi {κ : Nat → Nat} {S y : Nat} (h : S ≤ y) : cut4 κ S y = 40 := if_neg (by omega)
theorem cut4_ge {κ : Nat → Nat} {S y : Nat} (h : 20 ≤ κ y) : 20 ≤ cut4 κ S y := by unfold cut4; split <;> omega

theorem LF.trans' {κ κ1 κ2 : Nat → Nat} {w w1 w2 : World} (h : LF κ κ1 w w1) (k : LF κ1 κ2 w1 w2) : LF κ κ2 w w2 := by
  have hs := h.but.size
  refine ⟨h.but.step k.but (fun y hy e => ?_), fun y hy e => ?_, fun y hy e => k.hi y (by omega) (h.hi y hy e), fun y hy => ?_⟩
  · refine Classical.byContradiction (fun hc => ?_)
    have := h.lo y hy (by omega)
    omega
  · rw [k.lo y (by omega) (by rw [h.lo y hy e]; exact e), h.lo y hy e]
  · by_cases e : y < w1.heap.size
    · exact k.hi y e (h.new y hy)
    · exact k.new y (by omega)
set_option maxRecDepth 100000 in
set_option maxHeartbeats 8000000 in
theorem LOwn_cut {κ : Nat → Nat} {w : World} {q cnt tot nK n g : Nat} {fr wa ke ma : Value} {fv hv kv : List Value} {ms zs : List Int} {Z K : Nat → List Int} (hn : n ≤ 2) (h : Lg κ w q cnt tot 0 n n nK nK fr wa ke ma fv hv kv ms Z K) (hs : Hs4 κ w n hv Z) (hk : Hk4 nK K ms) (hZ : ∀ i, i < n → (Z i).length ≤ 16777216) (hB : Blk .i64 3 w g zs) (hg : κ g = 26 + n) (hzl : zs.length ≤ 16777216) (hnK : nK ≤ 67108864) (hc : cnt ≤ 16777210) (ht : tot ≤ 16777216) (hnew : ∀ y, w.heap.size ≤ y → 20 ≤ κ y) :
    Calls Try.prog 17 #[.pointer (some ⟨q, 0, none⟩), .slice (some ⟨g, 0, none⟩) zs.length zs.length] w fun e w' => e = .returned (.tuple #[]) ∧ ∃ κ' cnt' nK', cnt' ≤ cnt + 4 ∧ nK' ≤ nK + 6 ∧ Ldg κ' w' q cnt' (tot + zs.length) nK' ∧ LF κ κ' w w' := by
  obtain ⟨i3, hi3, hz3, hs3, hb3⟩ := info_parts info3
  obtain ⟨i34, hi34, hz34, hs34, hb34⟩ := info_parts info34
  obtain ⟨a2, c2, rfl, _⟩ := owns_slice h.oF
  obtain ⟨a3, c3, rfl, _⟩ := owns_slice h.oW
  have hfl : fv.length = n := by have := h.oF.1; simpa using this
  have hhl : hv.length = n := by have := h.oW.1; simpa using this
  obtain ⟨P1, b1⟩ := h.setq (cnt' := (cnt : Int) + 1) (tot' := tot) (lo' := 0) (nF' := n) (nW' := n) (fr' := .slice a2 n c2) (wa' := .slice a3 n c3) (fv' := fv) (hv' := hv) (j := 0) (v := .int .i64 ((cnt : Int) + 1)) (by unfold Lgb; simpa using h.blk.set 0 (.int .i64 ((cnt : Int) + 1))) (.inl ⟨rfl, rfl, rfl, rfl⟩) (.inl ⟨rfl, rfl, rfl⟩)
  obtain ⟨P2, b2⟩ := P1.setq (cnt' := (cnt : Int) + 1) (tot' := (tot : Int) + (zs.length : Int)) (lo' := 0) (nF' := n) (nW' := n) (fr' := .slice a2 n c2) (wa' := .slice a3 n c3) (fv' := fv) (hv' := hv) (j := 1) (v := .int .i64 ((tot : Int) + (zs.length : Int))) (by unfold Lgb; simpa using P1.blk.set 1 (.int .i64 ((tot : Int) + (zs.length : Int)))) (.inl ⟨rfl, rfl, rfl, rfl⟩) (.inl ⟨rfl, rfl, rfl⟩)
  have x0 := h.blk.cell 0
  have y0 := h.blk.frozen 0
  have x1 := P1.blk.cell 1
  have y1 := P1.blk.frozen 1
  have x2 := P2.blk.cell 2
  simp only [List.getElem?_toArray, List.getElem?_cons_succ, List.getElem?_cons_zero] at x0 x1 x2
  have tq : ∀ x, x = q → 20 ≤ κ x := fun x e => by rw [e, h.kq]; omega
  have nq : g ≠ q := fun e => by have := h.kq; rw [← e] at this; omega
  have U2 := ((But.refl (fun y => 20 ≤ κ y) w).step b1 (fun x _ e => tq x e)).step b2 (fun x _ e => tq x e)
  have F2 : LF κ κ w _ := ⟨U2, fun _ _ _ => rfl, fun _ _ e => e, hnew⟩
  have kp2 : Kt κ (fun s => s = 20) w _ := Kt.of_but ((b1.step b2 (fun _ _ e => e))) (fun x _ e => by rw [e]; exact h.kq)
  have hs2 := hs.keep (κ' := κ) kp2 (by omega) (fun _ _ e => e)
  have hB2 := hB.of_block (kp2.2 g hB.lt (by omega))
  have H2 := hid (And.intro P2 (And.intro F2 (And.intro hs2 hB2)))
  have Hk := hid (And.intro hk hZ)
  have hql := h.blk.lt
  clear h hs hk hZ hB P1 P2 b1 b2 U2 F2 kp2 hs2 hB2 tq hnew
  generalize hnl : zs.length = nl at *
  have Hnl := hid hnl
  clear hnl
  generalize hw2 : (w.setCell ⟨q, 0, none⟩ (.int .i64 ((cnt : Int) + 1))).setCell ⟨q, 1, none⟩ (.int .i64 ((tot : Int) + (nl : Int))) = w2 at *
  have HA := hid (H2.out.1.below ((Below.refl _ _).alloc (Nat.le_refl _) (.cells #[.slice (some ⟨g, 0, none⟩) nl nl] 34)))
  go_enter Try.func17, Try.ntmps17
  go_wp2_with (at_builtin; refine wpList_append_lies _ rfl _ _ 38 (by rfl) 0 34 i34 (.slice none 0 0) 1 24 Try.underlying38 hi34 hz34 hs34 hb34 rfl (by decide) _ n fv (by rfl) HA.out.oF ⟨w2.heap.size, 0, none⟩ 1 1 [.slice (some ⟨g, 0, none⟩) nl nl] (by rfl) (by rfl) (by exact newsV1 _ _ _ rfl) (by intro u hu; simp at hu; subst hu; rfl) (by decide) (by unfold maxLen; omega) (by omega) (by omega) (w2.heap.size + 1) (by simp) ?_)
  intro g2 cap2 w3 ho2 hg2 hlie2 _
  obtain ⟨hL3, kt3, kk3⟩ := H2.out.1.stepF (m := 1) (l := .slice (some ⟨g, 0, none⟩) nl nl) (Z' := upZ Z n zs) ((Below.refl w2.heap.size w2).alloc (Nat.le_refl _) (.cells #[.slice (some ⟨g, 0, none⟩) nl nl] 34)) hg2 (hlie2.imp id (fun e => by rw [e]; simp)) rfl hfl (by unfold upZ; rw [if_pos rfl]; exact ⟨g, by rw [Hnl.out], H2.out.2.2.2, hg⟩) (fun i hi => by unfold upZ; rw [if_neg (by omega)]) ho2
  have bb : Lgb w3 q ((cnt : Int) + 1) ((tot : Int) + (nl : Int)) _ _ _ _ := ((hg2.block q HA.out.blk.lt (fun e => (by have := HA.out.kF q e.symm; have := HA.out.kq; omega))).trans HA.out.blk)
  have z2 := bb.cell 2
  have z2f := bb.frozen 2
  simp only [List.getElem?_toArray, List.getElem?_cons_succ, List.getElem?_cons_zero] at z2
  have kF0 : ∀ x, (Value.slice a2 n c2).ownBlock = some x → κ x = 21 := H2.out.1.kF
  have U3 := ((But.refl (fun y => 20 ≤ κ y) w2).alloc (.cells #[.slice (some ⟨g, 0, none⟩) nl nl] 34)).of_grown hg2 (fun x hx _ => by have := kF0 x hx; show 20 ≤ κ x; omega)
  have U4 := U3.setCell (p := ⟨q, 2, none⟩) (show (fun y => 20 ≤ κ y) q from by have := H2.out.1.kq; show 20 ≤ κ q; omega) (.slice (some ⟨g2, 0, none⟩) (n + 1) cap2)
  have F4 := H2.out.2.1.step (κ2 := tg2 κ g2 21) U4 (fun y hy hlt => kk3 y hy) (fun y hge => tg2_ge (by omega) hge)
  have hs4 := H2.out.2.2.1.keep (κ' := tg2 κ g2 21) kt3 (by omega) (fun y hy e => (kk3 y hy).trans e)
  have hB4 := H2.out.2.2.2.of_block (kt3.2 g H2.out.2.2.2.lt (by omega))
  have H4 := hid (And.intro hL3 (And.intro F4 (And.intro hs4 hB4)))
  have x3 := hL3.blk.cell 3
  simp only [List.getElem?_toArray, List.getElem?_cons_succ, List.getElem?_cons_zero] at x3
  clear hL3 kt3 kk3 bb ho2 hg2 hlie2 U3 U4 F4 hs4 hB4 HA kF0 H2 hg nq
  go_wp2_with fail
  clear z2 z2f hw2 x0 y0 x1 y1 x2
  generalize hwA : w3.setCell ⟨q, 2, none⟩ (.slice (some ⟨g2, 0, none⟩) (n + 1) cap2) = wA at *
  clear hwA
  have hB4 := H4.out.2.2.2
  have HCp := hid (CopyInts_any (some ⟨g, 0, none⟩) nl nl zs wA.drew (by omega) (fun e => by cases e) (by rw [← Hnl.out]; exact RdI.of_blk hB4 hB4.lt))
  have hqA := H4.out.1.blk.lt
  have HQ : Hid (∀ (w5 : World) (g6 cap6 : Nat), wA.heap.size ≤ g6 → OwnI w5 g6 nl cap6 zs → Below wA.heap.size wA w5 → Lg (cut4 (tg2 κ g2 21) wA.heap.size) w5 q ((cnt : Int) + 1) ((tot : Int) + (nl : Int)) 0 (n + 1) n nK nK (.slice (some ⟨g2, 0, none⟩) (n + 1) cap2) (.slice a3 n c3) ke ma (fv ++ [.slice (some ⟨g, 0, none⟩) nl nl]) hv kv ms (upZ Z n zs) K ∧ LF κ (cut4 (tg2 κ g2 21) wA.heap.size) w w5 ∧ Hs4 (cut4 (tg2 κ g2 21) wA.heap.size) w5 n hv Z ∧ Sl4 (cut4 (tg2 κ g2 21) wA.heap.size) w5 (.slice (some ⟨g6, 0, none⟩) nl cap6) zs ∧ w5.cell? ⟨q, 3, none⟩ = some (.slice a3 n c3)) := fun w5 g6 cap6 hg6 hO6 hb6 => by
    have kp : Kt (tg2 κ g2 21) (fun _ => False) wA w5 := Kt.below hb6
    have h5 := H4.out.1.keep (κ' := cut4 (tg2 κ g2 21) wA.heap.size) kp (fun _ _ q => q) (fun y hy _ => cut4_lo hy)
    refine ⟨h5, H4.out.2.1.step (But.of_below hb6) (fun y hy _ => cut4_lo hy) (fun y hge => cut4_ge hge), H4.out.2.2.1.keep kp (fun q => q) (fun y hy e => (cut4_lo hy).trans e), Sl4.of_owi (B := g6) hO6 (cut4_hi hg6), (hb6.cell (p := ⟨q, 3, none⟩) hqA).trans x3⟩
  clear hB4
  go_region_law (first
    | (go_simp; go_at_call 46; refine Calls.mono HCp.out ?_; rintro e w5 ⟨g6, cap6, rfl, hgs6, hO6, hb6⟩; have hb6' := below_undrew hb6; obtain ⟨q1, q2, q3, q4, k4⟩ := HQ.out w5 g6 cap6 hgs6 hO6 hb6'; have H5 := hid (And.intro q1 (And.intro q2 (And.intro q3 q4))); have HA5 := hid (q1.below ((Below.refl _ _).alloc (Nat.le_refl _) (.cells #[.slice (some ⟨g6, 0, none⟩) nl cap6] 34))); have hq5 := q1.blk.lt; have ka4 : (w5.alloc (.cells #[.slice (some ⟨g6, 0, none⟩) nl cap6] 34)).cell? ⟨q, 3, none⟩ = some (.slice a3 n c3) := (World.cell?_alloc_past _ _ _ hq5).trans k4; clear hb6 hb6' hO6 q1 q2 q3 q4 hgs6; dsimp only)
    | (refine step_append_lies _ (by rfl) _ _ _ (by rfl) 0 34 i34 (.slice none 0 0) 1 24 Try.underlying38 hi34 hz34 hs34 hb34 rfl (by decide) _ n hv (by rfl) (by exact HA5.out.oW) ⟨w5.heap.size, 0, none⟩ 1 1 [.slice (some ⟨g6, 0, none⟩) nl cap6] (by rfl) (by rfl) (by exact newsV1 _ _ _ rfl) (by intro u hu; simp at hu; subst hu; rfl) (by decide) (by unfold maxLen; omega) (by omega) (by omega) (w5.heap.size + 1) (by simp) ?_; intro g3 cap3 w6 ho3 hg3 hlie3 _; have HS3 := hid (And.intro ho3 (And.intro hg3 hlie3)); have bb : Lgb w6 q ((cnt : Int) + 1) ((tot : Int) + (nl : Int)) _ _ _ _ := ((hg3.block q HA5.out.blk.lt (fun e => (by have := HA5.out.kW q e.symm; have := HA5.out.kq; omega))).trans HA5.out.blk); have c3'' := bb.cell 3; have f3'' := bb.frozen 3; simp only [List.getElem?_toArray, List.getElem?_cons_succ, List.getElem?_cons_zero] at c3''; clear ho3 hg3 hlie3 bb))
  all_goals
    obtain ⟨hL6, kt6, kk6⟩ := H5.out.1.stepW (m := 1) (l := .slice (some ⟨g6, 0, none⟩) nl cap6) ((Below.refl w5.heap.size w5).alloc (Nat.le_refl _) (.cells #[.slice (some ⟨g6, 0, none⟩) nl cap6] 34)) HS3.out.2.1 (HS3.out.2.2.imp id (fun e => by rw [e]; simp)) HS3.out.1
    have hs6 := H5.out.2.2.1.one hhl kt6 (by omega) (fun y hy e => (kk6 y hy).trans e) H5.out.2.2.2
    have kW0 : ∀ x, (Value.slice a3 n c3).ownBlock = some x → cut4 (tg2 κ g2 21) wA.heap.size x = 22 := H5.out.1.kW
    have U6 := ((But.refl (fun y => 20 ≤ cut4 (tg2 κ g2 21) wA.heap.size y) w5).alloc (.cells #[.slice (some ⟨g6, 0, none⟩) nl cap6] 34)).of_grown HS3.out.2.1 (fun x hx _ => by have := kW0 x hx; show 20 ≤ cut4 (tg2 κ g2 21) wA.heap.size x; omega)
    have U7 := U6.setCell (p := ⟨q, 3, none⟩) (show (fun y => 20 ≤ cut4 (tg2 κ g2 21) wA.heap.size y) q from by have := H5.out.1.kq; show 20 ≤ cut4 (tg2 κ g2 21) wA.heap.size q; omega) (.slice (some ⟨g3, 0, none⟩) (n + 1) cap3)
    have F7 := H5.out.2.1.step (κ2 := tg2 (cut4 (tg2 κ g2 21) wA.heap.size) g3 22) U7 (fun y hy hlt => kk6 y hy) (fun y hge => tg2_ge (by omega) hge)
    have hZ' : ∀ i, i < n + 1 → (upZ Z n zs i).length ≤ 16777216 := fun i hi => by
      unfold upZ
      by_cases e : i = n
      · rw [if_pos e, Hnl.out]; omega
      · rw [if_neg e]; exact Hk.out.2 i (by omega)
    have x0 := hL6.blk.cell 0
    have x2 := hL6.blk.cell 2
    simp only [List.getElem?_toArray, List.getElem?_cons_succ, List.getElem?_cons_zero] at x0 x2
    rw [show (cnt : Int) + 1 = ((cnt + 1 : Nat) : Int) from by omega, show (tot : Int) + (nl : Int) = ((tot + nl : Nat) : Int) from by omega] at hL6
    have FinN : Hid (n + 1 ≤ 2 → Ldg (tg2 (cut4 (tg2 κ g2 21) wA.heap.size) g3 22) (w6.setCell ⟨q, 3, none⟩ (.slice (some ⟨g3, 0, none⟩) (n + 1) cap3)) q (cnt + 1) (tot + nl) nK ∧ LF κ (tg2 (cut4 (tg2 κ g2 21) wA.heap.size) g3 22) w (w6.setCell ⟨q, 3, none⟩ (.slice (some ⟨g3, 0, none⟩) (n + 1) cap3))) := fun h2 => ⟨⟨n + 1, _, _, _, _, _, _, _, _, _, _, h2, hL6, hs6, Hk.out.1, hZ'⟩, F7⟩
    have HWr := hid (LWrite_any hL6 Hk.out.1 (by omega) hZ' hnK (by omega) (by omega))
    have FinW : Hid (∀ (w' : World) (κ' : Nat → Nat) (ke' ma' : Value) (kv' : List Value) (ms' : List Int) (K' : Nat → List Int), Lg κ' w' q ((cnt + 1 + (n + 1) : Nat) : Int) ((tot + nl : Nat) : Int) 0 0 0 (nK + 2 * (n + 1)) (nK + 2 * (n + 1)) (.slice none 0 0) (.slice none 0 0) ke' ma' [] [] kv' ms' (upZ Z n zs) K' → Hk4 (nK + 2 * (n + 1)) K' ms' → LF (tg2 (cut4 (tg2 κ g2 21) wA.heap.size) g3 22) κ' (w6.setCell ⟨q, 3, none⟩ (.slice (some ⟨g3, 0, none⟩) (n + 1) cap3)) w' → Ldg κ' w' q (cnt + 1 + (n + 1)) (tot + nl) (nK + 2 * (n + 1)) ∧ LF κ κ' w w') := fun w' κ' ke' ma' kv' ms' K' h1 h2 h3 =>
      ⟨⟨0, _, _, _, _, _, _, _, _, _, _, by omega, h1, (fun i hi => by omega), h2, fun i hi => by omega⟩, F7.trans' h3⟩
    clear hL6 kt6 kk6 hs6 kW0 U6 U7 F7 hZ' H5 HS3 HA5 c3'' f3'' HCp HQ H4 x3 ka4 k4 Hk hfl hhl
    generalize hw7 : w6.setCell ⟨q, 3, none⟩ (.slice (some ⟨g3, 0, none⟩) (n + 1) cap3) = w7 at *
    clear hw7
    rcases (show n = 0 ∨ n = 1 ∨ n = 2 by omega) with rfl | rfl | rfl
    all_goals go_wp2_with fail
  all_goals first
    | (go_at_call 47
       refine Calls.mono HWr.out ?_
       rintro e w' ⟨rfl, κ', ke', ma', kv', ms', K', h1, h2, h3⟩
       have HFin := hid (FinW.out w' κ' ke' ma' kv' ms' K' h1 h2 h3)
       clear h1 h2 h3 FinW FinN HWr
       go_wp2
       go_end0
       exact ⟨rfl, κ', _, _, by omega, by omega, HFin.out.1, HFin.out.2⟩)
    | (go_end0
       exact ⟨rfl, _, cnt + 1, nK, by omega, by omega, (FinN.out (by omega)).1, (FinN.out (by omega)).2⟩)

end Go.Proofs.Yteokekllbpkemaa
