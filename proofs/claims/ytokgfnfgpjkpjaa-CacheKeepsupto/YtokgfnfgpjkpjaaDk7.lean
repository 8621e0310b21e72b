/-
  Package disk: Flush.
-/
import Derived.Test.YtokgfnfgpjkpjaaDk6
import Derived.Deep.RegionHeld3
namespace Go.Proofs.Ytokgfnfgpjkpjaa
open Go.RowKit

theorem DkW.reimg {X : Nat → Prop} {w w' : World} {p : Nat} {img img' : List Int} {ds : List Pw} {fu : Int} {off : Bool} {gL cL : Nat} {pv : Value} {mp nb : Nat} (h : DkW X w p img ds fu off gL cL pv mp nb) (hO : Own w' gL (512 * nb) cL img') (hi : Pl.isB img') (hb : But (fun x => x = gL) w w') : DkW X w' p img' ds fu off gL cL pv mp nb := by
  obtain ⟨a1, a2, a3, a4⟩ := h.apart
  obtain ⟨cur, hcur⟩ := h.own.kind
  have k : ∀ g, g < w.heap.size → g ≠ gL → w'.heap[g]? = w.heap[g]? := fun g h1 h2 => hb.block g h1 h2
  refine ⟨h.blk.of_block (k p h.blk.lt (Ne.symm a1)), hO, hi, h.lo, h.hi, owns_keep h.row (fun g e => k g (World.ownsRow.lt h.row g e).2 (fun e2 => ?_)), fun d hd => ⟨(h.dat d hd).1.keep (k _ (h.dat d hd).1.lt (h.dat d hd).2.2.1), (h.dat d hd).2⟩, h.map.keep (k _ h.map.lt (fun e2 => ?_)), h.xp, h.xl, h.xm, h.xr, h.fus⟩
  · obtain ⟨c2, hc2⟩ := row_kind h.row e
    rw [e2, hcur] at hc2
    cases hc2
  · obtain ⟨es, ck, hc2⟩ := h.map.kind
    rw [e2, hcur] at hc2
    cases hc2
/-- all pending writes laid over the image -/
def flushZ (img : List Int) (puts : List (Nat × List Int)) : List Int := puts.foldl (fun im q => splice im (q.1 * 512) q.2) img
def flushC (off : Bool) (fu : Int) : Int := if off then 24 else burnC fu
def afterF (off : Bool) (fu : Int) : Int := if off then fu else burnF fu
def afterO (off : Bool) (fu : Int) : Bool := if off then true else burnO fu off
theorem mapL_new (w : World) : MapL (w.alloc (.map #[] 0)) w.heap.size 0 [] := by
  refine ⟨.map [], World.ownsMap_made w Try.prog 3 (plainElem Try.prog 3), fun x => .inl ⟨rfl, fun d hd => by cases hd⟩⟩

set_option maxRecDepth 100000 in
set_option maxHeartbeats 1000000 in
theorem Flush_any {X : Nat → Prop} {w : World} {p : Nat} {img : List Int} {puts : List (Nat × List Int)} {fu : Int} {off : Bool} {nb : Nat} (h : Dk X w p img puts fu off nb) (hl : puts.length ≤ 1073741824) :
    Calls Try.prog 36 #[.pointer (some ⟨p, 0, none⟩)] w fun e w' => e = .returned (.int .i64 (flushC off fu)) ∧ Dk (fun x => X x ∨ w.heap.size ≤ x) w' p (if flushC off fu = 0 then flushZ img puts else img) (if flushC off fu = 0 then [] else puts) (afterF off fu) (afterO off fu) nb ∧ But X w w' := by
  obtain ⟨ds, gL, cL, pv, mp, rfl, h⟩ := h
  obtain ⟨aP, cP, rfl, _⟩ := owns_slice h.row
  have hhi := h.hi
  simp only [List.length_map] at hl
  obtain ⟨w2, hw2⟩ : ∃ w2, w2 = w.alloc (.cells #[.func (.func 32) #[] #[], .func (.func 45) #[] #[]] 71) := ⟨_, rfl⟩
  have b2 : Below w.heap.size w w2 := by rw [hw2]; exact (Below.refl _ _).alloc (Nat.le_refl _) _
  have k0 : w2.cell? ⟨w.heap.size, 0, none⟩ = some (.func (.func 32) #[] #[]) := by rw [hw2]; exact cell_new rfl 0 _ rfl
  have k1 : w2.cell? ⟨w.heap.size, 1, none⟩ = some (.func (.func 45) #[] #[]) := by rw [hw2]; exact cell_new rfl 1 _ rfl
  have h2 := h.keep (w' := w2) (fun x _ hx => b2.block x hx)
  have HT : Calls Try.prog 45 (#[.pointer (some ⟨p, 0, none⟩)] ++ #[]) w2 fun e w' => e = .returned (.int .i64 (burnC fu)) ∧ (DkW X w' p img ds (burnF fu) (burnO fu off) gL cL (.slice aP ds.length cP) mp nb ∧ But (fun x => x = p) w2 w') := goes_any h2
  have HA := hid (ask_two (f := 45) (cap := #[]) (Q := fun e w' => e = .returned (.int .i64 (flushC off fu)) ∧ DkW X w' p img ds (afterF off fu) (afterO off fu) gL cL (.slice aP ds.length cP) mp nb ∧ But X w w') (k := w.heap.size) (.inr (.inr rfl)) h2.blk HT k0 k1
    (fun e => ⟨by rw [e]; rfl, by have := h2; subst e; exact this, But.of_below b2⟩) (fun e w' hb => ⟨by rw [e]; rfl, by have := hb.1; subst e; exact this, (But.of_below b2).comp hb.2 (fun x _ e => e ▸ h.xp)⟩))
  have hmm := @run_makeMap Try.prog
  clear k0 k1 b2 HT h h2
  go_enter Try.func36, Try.ntmps36
  go_wp2_with fail
  rw [← hw2]
  refine Calls.mono HA.out ?_
  rintro e w3 ⟨rfl, h3, u3⟩
  have H3 := hid h3
  have U3 := hid u3
  clear hw2 HA u3
  by_cases hz : flushC off fu = 0
  · have Hz := hid hz
    have q1 := h3.blk.cell 1
    simp only [List.getElem?_toArray, List.getElem?_cons_succ, List.getElem?_cons_zero] at q1
    simp only [hz]
    clear h3 hz
    go_wp2_with fail
    clear q1
    go_loopw [17] (fun i wt => ∃ k : Nat, k ≤ ds.length ∧ i = .int .i64 (k : Int) ∧ DkW X wt p ((ds.take k).foldl (fun im d => splice im (d.at_ * 512) d.data) img) ds (afterF off fu) (afterO off fu) gL cL (.slice aP ds.length cP) mp nb ∧ But X w wt) (fun i _ => ds.length - (intOf i).toNat)
    case atStart => exact ⟨0, Nat.zero_le _, rfl, H3.out, U3.out⟩
    case round =>
      clear H3 U3
      obtain ⟨k, hk, rfl, hI, hu⟩ := hrel
      by_cases hkn : k < ds.length
      · have hd : ds[k]? = some ds[k] := List.getElem?_eq_getElem hkn
        obtain ⟨gP, rfl, hgP, hpc⟩ := wide_cell hI.row (by omega)
        have r1 := hpc _ _ (pcs_get ds k _ hd).1
        have r2 := hpc _ _ (pcs_get ds k _ hd).2
        obtain ⟨wa, hwa⟩ : ∃ wa, wa = wr.alloc (.cells #[.int .i64 (ds[k].at_ : Int), .slice (some ⟨ds[k].g, 0, none⟩) 512 ds[k].c] 78) := ⟨_, rfl⟩
        have ba : Below wr.heap.size wr wa := by rw [hwa]; exact (Below.refl _ _).alloc (Nat.le_refl _) _
        have hIa := hI.keep (w' := wa.drew) (fun x _ hx => ba.block x hx)
        have e0 : wa.cell? ⟨wr.heap.size, 0, none⟩ = some (.int .i64 (ds[k].at_ : Int)) := by rw [hwa]; exact cell_new rfl 0 _ rfl
        have e1 : wa.cell? ⟨wr.heap.size, 1, none⟩ = some (.slice (some ⟨ds[k].g, 0, none⟩) 512 ds[k].c) := by rw [hwa]; exact cell_new rfl 1 _ rfl
        have q0 : wa.cell? ⟨p, 0, none⟩ = some (.slice (some ⟨gL, 0, none⟩) (512 * nb) cL) := hIa.blk.cell 0
        have hdd := hIa.dat ds[k] (List.getElem_mem hkn)
        have HL := hid (lay_any hIa.own ds[k].at_ ⟨ds[k].g, 0, none⟩ ds[k].c ds[k].data (hdd.1.rd hdd.2.1) (by have := hdd.2.2.2.2; omega) (by omega))
        have Hpl := hid (And.intro hIa.blk.lt (Ne.symm hIa.apart.1))
        have Hbl := hid (show wr.heap.size < wa.heap.size ∧ wr.heap.size ≠ gL from ⟨by rw [hwa]; simp, by have := hI.own.lt; omega⟩)
        have hkn' : (k : Int) < (ds.length : Int) := by omega
        have HS := hid (And.intro hIa (And.intro hu (And.intro ba hdd.2.1)))
        clear hI hu hpc hIa hdd ba hd
        go_wp2_with fail
        rw [← hwa]
        clear hwa
        go_region_held3 (fun w' => w'.cell? ⟨p, 0, none⟩ = some (.slice (some ⟨gL, 0, none⟩) (512 * nb) cL) ∧ w'.cell? ⟨wr.heap.size, 0, none⟩ = some (.int .i64 (ds[k].at_ : Int)) ∧ w'.cell? ⟨wr.heap.size, 1, none⟩ = some (.slice (some ⟨ds[k].g, 0, none⟩) 512 ds[k].c)) (first | (exact ⟨by assumption, by assumption, by assumption⟩) | go_keep)
          ((go_at_call 47; refine Calls.mono HL.out ?_; rintro e w6 ⟨rfl, hO6, hB6⟩; have j0 := (hB6.cell (p := ⟨p, 0, none⟩) Hpl.out.1 Hpl.out.2).trans q0; have j1 := (hB6.cell (p := ⟨wr.heap.size, 0, none⟩) Hbl.out.1 Hbl.out.2).trans e0; have j2 := (hB6.cell (p := ⟨wr.heap.size, 1, none⟩) Hbl.out.1 Hbl.out.2).trans e1; have HO6 := hid hO6; have HB6 := hid hB6; clear hO6 hB6))
        clear HL q0 e0 e1 j0 j1 j2 r1 r2
        go_wp2_with fail
        go_roundw
        case rel =>
          obtain ⟨hIa, hu, ba, hdb⟩ := HS.out
          have hst : (ds.take (k + 1)).foldl (fun im d => splice im (d.at_ * 512) d.data) img = splice ((ds.take k).foldl (fun im d => splice im (d.at_ * 512) d.data) img) (ds[k].at_ * 512) ds[k].data := fold_snoc _ _ _ hkn
          refine ⟨k + 1, by omega, by go_num, ?_, ?_⟩
          · rw [hst]
            exact hIa.reimg HO6.out (isB_splice hIa.isb hdb _) HB6.out
          · exact ((hu.trans (But.of_below ba)).comp (But.refl (fun _ => False) wa).drew (fun _ _ h => h.elim)).comp HB6.out (fun x _ e => e ▸ hIa.xl)
        case measure => simp [intOf]; omega
      · obtain rfl : k = ds.length := by omega
        have HI := hid hI
        have Hu := hid hu
        have q1 := hI.blk.cell 1
        have f1 := hI.blk.frozen 1
        have hb1 : Dkb (wr.setCell ⟨p, 1, none⟩ (.slice none 0 0)) p (.slice (some ⟨gL, 0, none⟩) (512 * nb) cL) (.slice none 0 0) (.map (some mp)) (afterF off fu) (afterO off fu) := by unfold Dkb; simpa using hI.blk.set 1 (.slice none 0 0)
        have Hb1 := hid hb1
        obtain ⟨wm, hwm⟩ : ∃ wm, wm = (wr.setCell ⟨p, 1, none⟩ (.slice none 0 0)).alloc (.map #[] 0) := ⟨_, rfl⟩
        have hbm : Dkb wm p (.slice (some ⟨gL, 0, none⟩) (512 * nb) cL) (.slice none 0 0) (.map (some mp)) (afterF off fu) (afterO off fu) := by
          rw [hwm]
          exact hb1.of_block (Below.heap_alloc _ _ _ hb1.lt)
        have Hbm := hid hbm
        have q2 := hbm.cell 2
        have f2 := hbm.frozen 2
        simp only [List.getElem?_toArray, List.getElem?_cons_succ, List.getElem?_cons_zero] at q1 q2
        rw [hwm] at q2 f2
        clear hI hu hb1 hbm
        go_wp2
        go_ret
        have hz := Hz.out
        have hsz : (wr.setCell ⟨p, 1, none⟩ (.slice none 0 0)).heap.size = wr.heap.size := by simp [World.setCell]
        rw [← hwm]
        have hfl : (ds.take ds.length).foldl (fun im d => splice im (d.at_ * 512) d.data) img = flushZ img (ds.map Pw.put) := by
          rw [List.take_length]
          unfold flushZ
          rw [List.foldl_map]
          rfl
        obtain ⟨a1, _, _, _⟩ := HI.out.apart
        have km : ∀ g, g < wr.heap.size → g ≠ p → (wm.setCell ⟨p, 2, none⟩ (.map (some wr.heap.size))).heap[g]? = wr.heap[g]? := fun g h1 h2 => by
          rw [Below.heap_setCell _ _ _ _ h2, hwm, Below.heap_alloc _ _ _ (by omega), Below.heap_setCell _ _ _ _ h2]
        have hU : But X w (wm.setCell ⟨p, 2, none⟩ (.map (some wr.heap.size))) := by
          rw [hwm]
          exact ((Hu.out.setCell (p := ⟨p, 1, none⟩) HI.out.xp _).alloc _).setCell (p := ⟨p, 2, none⟩) HI.out.xp _
        have hwr : w.heap.size ≤ wr.heap.size := Hu.out.size
        have hne : wr.heap.size ≠ p := fun e => by have := HI.out.blk.lt; omega
        refine ⟨rfl, ⟨[], gL, cL, .slice none 0 0, wr.heap.size, rfl, ?_⟩, hU⟩
        refine ⟨?_, ?_, ?_, HI.out.lo, HI.out.hi, ⟨rfl, .inl ⟨rfl, rfl⟩⟩, (fun d hd => by cases hd), ?_, .inl HI.out.xp, .inl HI.out.xl, .inr hwr, (fun g e => by cases e), HI.out.fus⟩
        · unfold Dkb; simpa using Hbm.out.set 2 (.map (some wr.heap.size))
        · have := HI.out.own.keep (km gL HI.out.own.lt a1)
          rw [hfl] at this
          exact this
        · have := HI.out.isb
          rw [hfl] at this
          exact this
        · have := mapL_new (wr.setCell ⟨p, 1, none⟩ (.slice none 0 0))
          rw [← hwm, hsz] at this
          exact this.keep (Below.heap_setCell _ _ _ _ hne)
  · clear h3
    go_wp2
    go_ret
    exact ⟨rfl, Dk.mono (X := X) ⟨ds, gL, cL, _, mp, rfl, H3.out⟩ (fun x h => .inl h), U3.out⟩

end Go.Proofs.Ytokgfnfgpjkpjaa
