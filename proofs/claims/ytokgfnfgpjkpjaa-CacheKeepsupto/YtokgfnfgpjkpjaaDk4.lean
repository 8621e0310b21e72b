/-
  Package disk: Fuse, Pending; the fuse burns.
-/
import Derived.Test.YtokgfnfgpjkpjaaDk3
namespace Go.Proofs.Ytokgfnfgpjkpjaa
open Go.RowKit

theorem Own.kind {w : World} {g n c : Nat} {zs : List Int} (h : Own w g n c zs) : ∃ cur, w.heap[g]? = some (.cells cur 5 (0, 0)) := by
  rcases h.2 with ⟨h1, _⟩ | ⟨_, _, cur, h1, _, h2, _⟩
  · cases h1
  · cases h1
    exact ⟨cur, h2⟩
theorem row_kind {w : World} {base e size n : Nat} {v : Value} {xs : List Value} (h : w.ownsRow base e size v n xs) {g : Nat} (hg : v.ownBlock = some g) : ∃ cur, w.heap[g]? = some (.cells cur e (0, 0)) := by
  rcases h.2 with ⟨h1, _⟩ | ⟨_, _, cur, h1, _, h2, _⟩
  · rw [h1] at hg; cases hg
  · rw [h1] at hg; cases hg
    exact ⟨cur, h2⟩
theorem MapL.kind {w : World} {mp n : Nat} {ds : List Pw} (h : MapL w mp n ds) : ∃ es ck, w.heap[mp]? = some (.map es ck) := by
  obtain ⟨D, ⟨es, ck, h1, _⟩, _⟩ := h
  exact ⟨es, ck, h1⟩
/-- a disk's own block is none of what it leads to -/
theorem DkW.apart {X : Nat → Prop} {w : World} {p : Nat} {img : List Int} {ds : List Pw} {fu : Int} {off : Bool} {gL cL : Nat} {pv : Value} {mp nb : Nat} (h : DkW X w p img ds fu off gL cL pv mp nb) : gL ≠ p ∧ (∀ g, pv.ownBlock = some g → g ≠ p) ∧ mp ≠ p ∧ ∀ d ∈ ds, d.g ≠ p := by
  have hp : w.heap[p]? = _ := h.blk
  refine ⟨fun e => ?_, fun g hg e => ?_, fun e => ?_, fun d hd e => ?_⟩
  · obtain ⟨cur, hc⟩ := h.own.kind
    rw [e, hp] at hc
    cases hc
  · obtain ⟨cur, hc⟩ := row_kind h.row hg
    rw [e, hp] at hc
    cases hc
  · obtain ⟨es, ck, hc⟩ := h.map.kind
    rw [e, hp] at hc
    cases hc
  · obtain ⟨cur, hc⟩ := (h.dat d hd).1.kind
    rw [e, hp] at hc
    cases hc
theorem DkW.reblk {X : Nat → Prop} {w : World} {p : Nat} {img : List Int} {ds : List Pw} {fu fu' : Int} {off off' : Bool} {gL cL : Nat} {pv : Value} {mp nb : Nat} (h : DkW X w p img ds fu off gL cL pv mp nb) {t : Nat} {v : Value} (hb : Dkb (w.setCell ⟨p, t, none⟩ v) p (.slice (some ⟨gL, 0, none⟩) (512 * nb) cL) pv (.map (some mp)) fu' off') (hf : -1 ≤ fu' ∧ fu' ≤ 9223372036854775807) :
    DkW X (w.setCell ⟨p, t, none⟩ v) p img ds fu' off' gL cL pv mp nb := by
  obtain ⟨a1, a2, a3, a4⟩ := h.apart
  have k : ∀ g, g ≠ p → (w.setCell ⟨p, t, none⟩ v).heap[g]? = w.heap[g]? := fun g hg => Below.heap_setCell _ _ _ _ hg
  exact ⟨hb, h.own.keep (k _ a1), h.isb, h.lo, h.hi, owns_keep h.row (fun g e => k g (a2 g e)), fun d hd => ⟨(h.dat d hd).1.keep (k _ (a4 d hd)), (h.dat d hd).2⟩, h.map.keep (k _ a3), h.xp, h.xl, h.xm, h.xr, hf⟩
theorem DkW.setF {X : Nat → Prop} {w : World} {p : Nat} {img : List Int} {ds : List Pw} {fu : Int} {off : Bool} {gL cL : Nat} {pv : Value} {mp nb : Nat} (h : DkW X w p img ds fu off gL cL pv mp nb) (k : Int) (hk : -1 ≤ k ∧ k ≤ 9223372036854775807) : DkW X (w.setCell ⟨p, 3, none⟩ (.int .i64 k)) p img ds k off gL cL pv mp nb :=
  h.reblk (by unfold Dkb; simpa using h.blk.set 3 (.int .i64 k)) hk
theorem DkW.setO {X : Nat → Prop} {w : World} {p : Nat} {img : List Int} {ds : List Pw} {fu : Int} {off : Bool} {gL cL : Nat} {pv : Value} {mp nb : Nat} (h : DkW X w p img ds fu off gL cL pv mp nb) (b : Bool) : DkW X (w.setCell ⟨p, 4, none⟩ (.bool b)) p img ds fu b gL cL pv mp nb :=
  h.reblk (by unfold Dkb; simpa using h.blk.set 4 (.bool b)) h.fus

/-- the fuse behind one more call: does it go through, the fuse, the power -/
def burnC (fu : Int) : Int := if fu = 0 then 24 else 0
def burnF (fu : Int) : Int := if fu = -1 then -1 else if fu = 0 then 0 else fu - 1
def burnO (fu : Int) (off : Bool) : Bool := if fu = 0 then true else off
theorem goes_any {X : Nat → Prop} {w : World} {p : Nat} {img : List Int} {ds : List Pw} {fu : Int} {off : Bool} {gL cL : Nat} {pv : Value} {mp nb : Nat} (h : DkW X w p img ds fu off gL cL pv mp nb) :
    Calls Try.prog 45 #[.pointer (some ⟨p, 0, none⟩)] w fun e w' => e = .returned (.int .i64 (burnC fu)) ∧ (DkW X w' p img ds (burnF fu) (burnO fu off) gL cL pv mp nb ∧ But (fun x => x = p) w w') := by
  have hf := h.fus
  by_cases h1 : fu = -1
  · subst h1
    refine (goesThrough_none h.blk).mono ?_
    rintro e w' ⟨rfl, rfl⟩
    exact ⟨rfl, h, But.refl _ _⟩
  · by_cases h2 : fu = 0
    · subst h2
      refine (goesThrough_zero h.blk).mono ?_
      rintro e w' ⟨rfl, rfl⟩
      exact ⟨rfl, h.setO true, (But.refl (fun x => x = p) w).setCell (p := ⟨p, 4, none⟩) (show (fun x => x = p) p from rfl) _⟩
    · refine (goesThrough_some (by omega) hf.2 h.blk).mono ?_
      rintro e w' ⟨rfl, rfl⟩
      have e1 : burnC fu = 0 := if_neg h2
      have e2 : burnF fu = fu - 1 := by unfold burnF; rw [if_neg h1, if_neg h2]
      have e3 : burnO fu off = off := if_neg h2
      rw [e1, e2, e3]
      exact ⟨rfl, h.setF (fu - 1) (by omega), (But.refl (fun x => x = p) w).setCell (p := ⟨p, 3, none⟩) (show (fun x => x = p) p from rfl) _⟩

set_option maxRecDepth 100000 in
set_option maxHeartbeats 1000000 in
theorem Fuse_any {X : Nat → Prop} {w : World} {p : Nat} {img : List Int} {puts : List (Nat × List Int)} {fu : Int} {off : Bool} {nb : Nat} (h : Dk X w p img puts fu off nb) (k : Int) (hk : k ≤ 9223372036854775807) :
    Calls Try.prog 15 #[.pointer (some ⟨p, 0, none⟩), .int .i64 k] w fun e w' => e = .returned (.int .i64 (fuseR off k)) ∧ Dk X w' p img puts (if fuseR off k = 0 then k else fu) off nb ∧ But X w w' := by
  obtain ⟨ds, gL, cL, pv, mp, rfl, h⟩ := h
  have HI := hid (isFuse_any k w)
  obtain ⟨w2, hw2⟩ : ∃ w2, w2 = (w.alloc (.cells #[.int .i64 k] 3)).alloc (.cells #[.func (.func 32) #[] #[], .func (.func 46) #[] #[.pointer (some ⟨w.heap.size, 0, none⟩)]] 71) := ⟨_, rfl⟩
  obtain ⟨b2, hc, k0, k1⟩ := two_ready w _ _ _ hw2
  have HT : Calls Try.prog 46 (#[.pointer (some ⟨p, 0, none⟩)] ++ #[.pointer (some ⟨w.heap.size, 0, none⟩)]) w2 fun e w' => e = .returned (.int .i64 (if k < -1 then 25 else 0)) ∧ w' = w2 := isFuse1_any _ hc
  have HA := hid (ask_two (f := 46) (cap := #[.pointer (some ⟨w.heap.size, 0, none⟩)]) (Q := fun e w' => e = .returned (.int .i64 (fuseR off k)) ∧ w' = w2) (k := w.heap.size + 1) (.inr (.inl rfl)) (h.blk.of_block (b2.block p h.blk.lt)) HT k0 k1 (fun e => ⟨by rw [e]; rfl, rfl⟩) (fun e w' hb => ⟨by rw [e]; rfl, hb⟩))
  have h2 := h.keep (w' := w2) (fun x _ hx => b2.block x hx)
  have H2 := hid h2
  have B2 := hid b2
  have f3 := h2.blk.frozen 3
  have q3 := h2.blk.cell 3
  simp only [List.getElem?_toArray, List.getElem?_cons_succ, List.getElem?_cons_zero] at q3
  clear k0 k1 hc b2 HT h h2
  go_enter Try.func15, Try.ntmps15
  go_wp2_with fail
  refine Calls.mono HI.out ?_
  rintro e w1 ⟨rfl, rfl⟩
  go_wp2_with fail
  rw [← hw2]
  refine Calls.mono HA.out ?_
  rintro e w3 ⟨rfl, rfl⟩
  clear hw2 HA HI
  by_cases hz : fuseR off k = 0
  · have hk1 : -1 ≤ k := by
      unfold fuseR at hz
      split at hz
      · omega
      · split at hz <;> omega
    simp only [hz]
    go_wp2
    go_ret
    exact ⟨rfl, ⟨ds, gL, cL, pv, mp, rfl, H2.out.setF k ⟨hk1, hk⟩⟩, (But.of_below B2.out).setCell (p := ⟨p, 3, none⟩) H2.out.xp _⟩
  · go_wp2
    go_ret
    exact ⟨rfl, ⟨ds, gL, cL, pv, mp, rfl, H2.out⟩, But.of_below B2.out⟩

end Go.Proofs.Ytokgfnfgpjkpjaa
