/-
  The record of numbers: Holds (function 50), Done (function 31).
-/
import Derived.Test.YteaebdonnicbkaaIn8
namespace Go.Proofs.Yteaebdonnicbkaa
open Go.RowKit

theorem In.setL {B : Nat} {κ : Nat → Nat} {w : World} {q : Nat} {cnt tot lk : Int} {lo n nK nM : Nat} {fr wa ba ke ma : Value} {fv hv kv : List Value} {bs ms : List Int} {Z K : Nat → List Int} (h : In B κ w q cnt tot lk lo n nK nM fr wa ba ke ma fv hv kv bs ms Z K) (x : Int) : In B κ (w.setCell ⟨q, 6, none⟩ (.int .i64 x)) q cnt tot x lo n nK nM fr wa ba ke ma fv hv kv bs ms Z K := by
  have kp : Kp κ 0 w (w.setCell ⟨q, 6, none⟩ (.int .i64 x)) := Kp.of_but ((But.refl (fun y => y = q) w).setCell (p := ⟨q, 6, none⟩) (show (fun y => y = q) q from rfl) _) (fun g _ e => by rw [e]; exact h.kq)
  have hb := h.blk.set 6 (.int .i64 x)
  refine ⟨by unfold Inb; simpa using hb, h.kq, h.qB, row_kp h.oF h.kF kp (by omega), h.kF, row_kp h.oW h.kW kp (by omega), h.kW, row_kp h.oB h.kB kp (by omega), h.kB, row_kp h.oK h.kK kp (by omega), h.kK, row_kp h.oM h.kM kp (by omega), h.kM, ?_, ?_⟩
  · intro i h1 h2
    rcases h.fs i h1 h2 with q | ⟨g, q1, q2, q3, q4⟩
    · exact .inl q
    · exact .inr ⟨g, q1, q2.of_block (kp.2 g q2.lt (by omega)), q3, q4⟩
  · intro j hj
    exact (h.ks j hj).keep kp.1 (fun g hg hk => kp.2 g hg (by omega)) (fun g _ hk => hk)

/-- what others do, and other tags for what is not the record's -/
theorem InS.kept {B : Nat} {κ κ' : Nat → Nat} {w w' : World} {q cnt tot : Nat} {lk : Int} (h : InS B κ w q cnt tot lk) {T : Nat → Prop} (hu : But T w w') (hT : ∀ x, x < w.heap.size → T x → κ x = 200) (hκ : ∀ x, x < w.heap.size → κ x ≠ 200 → κ' x = κ x) : InS B κ' w' q cnt tot lk := by
  obtain ⟨n, nK, fr, wa, ba, ke, ma, fv, hv, kv, bs, ms, Z, K, h, hh, hK, hn, hnK, hZ, hKm⟩ := h
  have h1 := h.toO.retag (κ' := fun x => if x < w.heap.size then κ x else κ' x) (by omega) (fun x hx _ => if_pos hx)
  have kp : Kp (fun x => if x < w.heap.size then κ x else κ' x) 200 w w' := Kp.of_but hu (fun x hx ht => (if_pos hx).trans (hT x hx ht))
  have h2 := (h1.kept kp (by omega) (by omega)).retag (κ' := κ') (by omega) (fun x _ hx' => by
    by_cases e : x < w.heap.size
    · rw [if_pos e] at hx' ⊢
      exact hκ x e hx'
    · rw [if_neg e])
  refine ⟨n, nK, fr, wa, ba, ke, ma, fv, hv, kv, bs, ms, Z, K, h2.toIn, fun i hi => (hh i hi).keep kp.1 (fun g hg hk => kp.2 g hg ?_) (fun g hg hk => by rw [hκ g hg (by omega)]; exact hk), hK, hn, hnK, hZ, hKm⟩
  show (if g < w.heap.size then κ g else κ' g) ≠ 200
  rw [if_pos hg]
  omega

set_option maxRecDepth 100000 in
set_option maxHeartbeats 4000000 in
theorem iholds_any (B : Nat) (κ : Nat → Nat) (w : World) (q cnt tot lk : Nat) (hc : cnt ≤ 16777216) (hlk : lk ≤ 16777216) (h : InS B κ w q cnt tot lk) :
    Calls Try.prog 50 #[.pointer (some ⟨q, 0, none⟩)] w fun e w' => e = .returned (.bool true) ∧ InS B κ w' q cnt tot ((lk + 1 : Nat) : Int) ∧ But (fun x => x = q) w w' := by
  obtain ⟨n, nK, fr, wa, ba, ke, ma, fv, hv, kv, bs, ms, Z, K, h, hh, hK, hn, hnK, hZ, hKm⟩ := h
  have HU := hid (iuntouched_any B κ w q cnt tot lk n nK nK fr wa ba ke ma fv hv kv bs ms Z K (by omega) (fun i hi => by have := (hZ i hi).1; omega) h hh)
  have hq0 := h.kq
  have HZ := hid hZ
  have HKm := hid hKm
  have HK := hid hK
  clear h hh hZ hKm hK
  go_enter Try.func50, Try.ntmps50
  go_wp2_with fail
  refine Calls.mono HU.out ?_
  rintro e w0 ⟨rfl, h0, hh0, u0⟩
  have q6 := h0.blk.cell 6
  have f6 := h0.blk.frozen 6
  have H1 := h0.setL ((lk : Int) + 1)
  have q2 := H1.blk.cell 2
  have q6' := H1.blk.cell 6
  simp only [List.getElem?_toArray, List.getElem?_cons_succ, List.getElem?_cons_zero] at q6 q2 q6'
  have U1 := hid (u0.setCell (p := ⟨q, 6, none⟩) (show (fun x => x = q) q from rfl) (.int .i64 ((lk : Int) + 1)))
  have kp : Kp κ 0 w0 (w0.setCell ⟨q, 6, none⟩ (.int .i64 ((lk : Int) + 1))) := Kp.of_but ((But.refl (fun y => y = q) w0).setCell (p := ⟨q, 6, none⟩) (show (fun y => y = q) q from rfl) _) (fun g _ e => by rw [e]; exact hq0)
  have HH1 := hid (hh0.kp kp (by omega))
  have HH2 := hid H1
  have HQ := hid (ikept_any B κ (w0.setCell ⟨q, 6, none⟩ (.int .i64 ((lk : Int) + 1))) q cnt tot ((lk : Int) + 1) 0 n nK nK fr wa ba ke ma fv hv kv bs ms Z K (by omega) (by omega) (fun j hj => by have := (HKm.out j hj).1; omega) (fun j hj => by have := (HKm.out j hj).2; omega) H1 rfl HK.out)
  clear HU h0 hh0 u0 H1 kp
  have ht8 : ((lk : Int) + 1).tmod 8 = ((lk : Int) + 1) % 8 := Int.tmod_eq_emod_of_nonneg (by omega)
  by_cases h8 : ((lk : Int) + 1) % 8 = 0
  · go_wp2_with fail
    refine Calls.mono HQ.out ?_
    rintro e w1 ⟨rfl, hb1⟩
    have Hb1 := hid hb1
    clear hb1
    go_wp2
    go_ret
    refine ⟨rfl, ?_, U1.out.trans (But.of_below Hb1.out)⟩
    exact InS.kept (κ := κ) (T := fun _ => False) ⟨n, nK, fr, wa, ba, ke, ma, fv, hv, kv, bs, ms, Z, K, HH2.out, HH1.out, HK.out, hn, hnK, HZ.out, HKm.out⟩ (But.of_below Hb1.out) (fun _ _ h => h.elim) (fun _ _ _ => rfl)
  · go_wp2
    go_ret
    exact ⟨rfl, ⟨n, nK, fr, wa, ba, ke, ma, fv, hv, kv, bs, ms, Z, K, HH2.out, HH1.out, HK.out, hn, hnK, HZ.out, HKm.out⟩, U1.out⟩

set_option maxRecDepth 100000 in
set_option maxHeartbeats 4000000 in
theorem idone_any (B : Nat) (κ : Nat → Nat) (w : World) (q cnt tot : Nat) (lk : Int) (hc : cnt ≤ 16777216) (ht : tot ≤ 1125899906842624) (h : InS B κ w q cnt tot lk) :
    Calls Try.prog 31 #[.pointer (some ⟨q, 0, none⟩)] w fun e w' => e = .returned (.bool true) ∧ But (fun x => κ x ≤ 90) w w' := by
  obtain ⟨n, nK, fr, wa, ba, ke, ma, fv, hv, kv, bs, ms, Z, K, h, hh, hK, hn, hnK, hZ, hKm⟩ := h
  have HU := hid (iwrite_any B κ w q cnt tot lk n nK fr wa ba ke ma fv hv kv bs ms Z K (by omega) (by omega) (by omega) (by omega) (fun i hi => (hZ i hi).1) (fun i hi => (hZ i hi).2) h hh hK)
  have HKm := hid hKm
  clear h hh hZ hKm hK
  go_enter Try.func31, Try.ntmps31
  go_wp2_with fail
  refine Calls.mono HU.out ?_
  rintro e w0 ⟨rfl, κ', ke', ma', kv', ms', K', h0, hK', hold, hnew, _, u0⟩
  have q2 := h0.blk.cell 2
  simp only [List.getElem?_toArray, List.getElem?_cons_succ, List.getElem?_cons_zero] at q2
  have HB : ∀ j, j < nK + 2 * n → (K' j).length ≤ 16779286 ∧ 0 ≤ ms'.getD j 0 ∧ ms'.getD j 0 ≤ 562949953421312 := fun j hj => by
    by_cases e : j < nK
    · rw [(hold j e).1, (hold j e).2]; exact HKm.out j e
    · exact hnew j (by omega) hj
  have HQ := hid (ikept_any B κ' w0 q cnt tot lk 0 0 (nK + 2 * n) (nK + 2 * n) _ _ _ ke' ma' [] [] kv' [] ms' Z K' (by omega) (by omega) (fun j hj => by have := (HB j hj).1; omega) (fun j hj => by have := (HB j hj).2; omega) h0 rfl hK')
  have U0 := hid u0
  clear HU h0 hK' hold hnew u0 HB
  go_wp2_with fail
  refine Calls.mono HQ.out ?_
  rintro e w1 ⟨rfl, hb1⟩
  have Hb1 := hid hb1
  clear hb1
  go_wp2
  go_ret
  exact ⟨rfl, U0.out.trans (But.of_below Hb1.out)⟩

end Go.Proofs.Yteaebdonnicbkaa
