/-
  The document's cache: Read.
-/
import Derived.Test.YtfadnmdmohabmaaRub
namespace Go.Proofs.Ytfadnmdmohabmaa
open Go.RowKit

/-- one use more -/
theorem Rp_push {Z X Y : Nat → Prop} {v w6 : World} {x r room : Nat} {us : Us} {hi mi : Int} {img : List Int} {puts : List (Nat × List Int)} {fu : Int} {off : Bool} {nb : Nat} {aP : Option Addr} {cP g4 cap4 : Nat} {k : Int} {D : List Int} {S : ByteArray}
    (hd : ∀ k, X k → Y k → False) (hX : ∀ k, X k → Z k ∧ k < v.heap.size) (hY : ∀ k, Y k → Z k ∧ k < v.heap.size) (hk : Rk X v r img puts fu off nb) (h3 : Rcs Y v x r room us hi mi (.slice aP us.length cP))
    (HG4 : (v.alloc (.cells #[.int .i64 k, .string S] 128)).drew.grownBy w6 (Value.slice aP us.length cP).ownBlock) (L4 : (Value.slice aP us.length cP).ownBlock = some g4 ∨ g4 = v.heap.size + 1)
    (HO4 : w6.ownsRow 0 128 2 (.slice (some ⟨g4, 0, none⟩) (us.length + 1) cap4) (us.length + 1) (ucs us ++ [.int .i64 k, .string S])) (Hbb : Rcb w6 x r room (.slice aP us.length cP) hi mi) (HS : strOfNums D = S) :
    Rp (fun k => Z k ∨ v.heap.size ≤ k) (w6.setCell ⟨x, 2, none⟩ (.slice (some ⟨g4, 0, none⟩) (us.length + 1) cap4)) x r room (us ++ [(k, D)]) hi mi img puts fu off nb ∧ But Z v (w6.setCell ⟨x, 2, none⟩ (.slice (some ⟨g4, 0, none⟩) (us.length + 1) cap4)) := by
  have ha := h3.apart
  have hx3 : x < v.heap.size := h3.blk.lt
  have hg4 : g4 ≠ x := fun e => by
    rcases L4 with q | q
    · exact ha g4 q e
    · omega
  have hs6 : v.heap.size + 1 ≤ w6.heap.size := by simpa using HG4.size
  have hsz : (w6.setCell ⟨x, 2, none⟩ (.slice (some ⟨g4, 0, none⟩) (us.length + 1) cap4)).heap.size = w6.heap.size := by simp [World.setCell]
  refine ⟨⟨X, fun q => Y q ∨ (v.heap.size ≤ q ∧ q < w6.heap.size), .slice (some ⟨g4, 0, none⟩) (us.length + 1) cap4, ?_, ?_, ?_, ?_, ?_⟩, ((((But.refl Z v).alloc _).drew.of_grown HG4 (fun q e _ => (hY q (h3.xu q e)).1)).setCell (p := ⟨x, 2, none⟩) (hY x h3.xx).1 _)⟩
  · rintro q h1 (h4 | h4)
    · exact hd q h1 h4
    · have := (hX q h1).2; omega
  · intro q h1
    rw [hsz]
    exact ⟨.inl (hX q h1).1, by have := (hX q h1).2; omega⟩
  · rintro q (h1 | h1)
    · rw [hsz]
      exact ⟨.inl (hY q h1).1, by have := (hY q h1).2; omega⟩
    · rw [hsz]
      exact ⟨.inr (by omega), h1.2⟩
  · refine hk.keep (fun q hq hq3 => ?_)
    have nY : ¬ Y q := fun hy => hd q hq hy
    rw [Below.heap_setCell _ _ _ _ (show q ≠ x from fun e => nY (e ▸ h3.xx)), HG4.block q (by simp; omega) (fun e2 => nY (h3.xu q e2.symm))]
    exact Below.heap_alloc _ _ _ hq3
  · refine ⟨by simpa [Rcb] using Hbb.set 2 (.slice (some ⟨g4, 0, none⟩) (us.length + 1) cap4), ?_, .inl h3.xx, ?_⟩
    · unfold OwU
      rw [ucs_snoc, HS]
      have := owns_setCell HO4 (p := ⟨x, 2, none⟩) (fun e => by simp [Value.ownBlock] at e; exact hg4 e) (.slice (some ⟨g4, 0, none⟩) (us.length + 1) cap4)
      simpa using this
    · intro g e
      cases e
      rcases L4 with q | q
      · exact .inl (h3.xu g4 q)
      · exact .inr (show v.heap.size ≤ g4 ∧ g4 < w6.heap.size from ⟨by omega, (World.ownsRow.lt HO4 g4 rfl).2⟩)
theorem Rp.mono {Z Z' : Nat → Prop} {w : World} {x r room : Nat} {us : Us} {hi mi : Int} {img : List Int} {puts : List (Nat × List Int)} {fu : Int} {off : Bool} {nb : Nat} (h : Rp Z w x r room us hi mi img puts fu off nb) (hz : ∀ k, Z k → Z' k) : Rp Z' w x r room us hi mi img puts fu off nb := by
  obtain ⟨X, Y, uv, hd, hX, hY, hk, h⟩ := h
  exact ⟨X, Y, uv, hd, fun q h => ⟨hz q (hX q h).1, (hX q h).2⟩, fun q h => ⟨hz q (hY q h).1, (hY q h).2⟩, hk, h⟩

theorem refCRead_err {Z : Nat → Prop} {w : World} {x r room : Nat} {us : Us} {hi mi : Int} {img : List Int} {puts : List (Nat × List Int)} {fu : Int} {off : Bool} {nb : Nat} (h : Rp Z w x r room us hi mi img puts fu off nb) (hl : puts.length ≤ 1073741824) (k : Int) (hz : (readR img puts off nb k).1 ≠ 0) :
    Calls Try.prog 39 #[.pointer (some ⟨x, 0, none⟩), .int .i64 k] w fun e w' => e = .returned (.tuple #[.string ⟨#[]⟩, .int .i64 (readR img puts off nb k).1]) ∧ w' = w := by
  obtain ⟨X, Y, uv, hd, hX, hY, hk, h⟩ := h
  have c0 : w.cell? ⟨x, 0, none⟩ = some (.pointer (some ⟨r, 0, none⟩)) := h.blk.cell 0
  have HW := hid (refRead_any hk k hl)
  clear h hk hd hX hY
  go_enter Try.func39, Try.ntmps39
  go_wp2_with fail
  refine Calls.mono HW.out ?_
  rintro e w3 ⟨rfl, rfl⟩
  clear HW
  go_wp2
  go_ret2
  exact ⟨rfl, rfl⟩

set_option maxRecDepth 100000 in
set_option maxHeartbeats 4000000 in
theorem refCRead_miss {Z : Nat → Prop} {w : World} {x r room : Nat} {us : Us} {hi mi : Int} {img : List Int} {puts : List (Nat × List Int)} {fu : Int} {off : Bool} {nb : Nat} (h : Rp Z w x r room us hi mi img puts fu off nb) (hl : puts.length ≤ 1073741824) (hu : us.length ≤ 16777215) (hr : room ≤ 4096) (hmi : 0 ≤ mi ∧ mi < 4611686018427387904) (k : Int) (D : List Int) (hz : readR img puts off nb k = (0, D)) (hm : ∀ q ∈ heldU room us, q.1 ≠ k) :
    Calls Try.prog 39 #[.pointer (some ⟨x, 0, none⟩), .int .i64 k] w fun e w' => e = .returned (.tuple #[.string (strOfNums D), .int .i64 0]) ∧ Rp (fun k => Z k ∨ w.heap.size ≤ k) w' x r room (us ++ [(k, D)]) hi (mi + 1) img puts fu off nb ∧ But Z w w' := by
  obtain ⟨X, Y, uv, hd, hX, hY, hk, h⟩ := h
  obtain ⟨aP, cP, rfl, _⟩ := owns_slice h.row
  have c0 : w.cell? ⟨x, 0, none⟩ = some (.pointer (some ⟨r, 0, none⟩)) := h.blk.cell 0
  have HW := refRead_any hk k hl
  rw [hz] at HW
  have HW := hid HW
  have HH := hid (refHeld_any h.blk h.row (by omega) hr)
  have H := hid h
  have HK := hid hk
  have hlr : (heldU room us).length ≤ 4096 := by
    unfold heldU
    rw [back_take _ _ _ (by simp)]
    simp
    omega
  generalize heldU room us = L at *
  generalize hS : strOfNums D = S at *
  have HS := hid hS
  clear h hk hz hS
  go_enter Try.func39, Try.ntmps39
  go_wp2_with fail
  refine Calls.mono HW.out ?_
  rintro e w0 ⟨rfl, rfl⟩
  clear HW
  go_wp2_with fail
  refine Calls.mono HH.out ?_
  rintro e w1 ⟨al, cp, rfl, hO, b1⟩
  have HO := hid hO
  have B1 := hid b1
  clear HH hO b1
  go_wp2_with fail
  go_loopw [9] (fun iv wt => ∃ i : Nat, i ≤ L.length ∧ iv = .int .i64 (i : Int) ∧ Below w1.heap.size w1 wt) (fun iv _ => L.length - (intOf iv).toNat)
  case atStart => exact ⟨0, Nat.zero_le _, rfl, Below.refl _ _⟩
  case round =>
    obtain ⟨i, hi', rfl, hbt⟩ := hrel
    by_cases hin : i < L.length
    · obtain ⟨g, rfl, _, hgl, hcs⟩ := OwU.cells HO.out (by omega)
      have hq : L[i]? = some L[i] := List.getElem?_eq_getElem hin
      have c0 := (hbt.cell (p := ⟨g, i * 2, none⟩) hgl).trans (hcs i _ hq).1
      have hne : ¬ (L[i].1 = k) := hm _ (List.getElem_mem hin)
      have hin' : (i : Int) < (L.length : Int) := by omega
      generalize L[i] = q at *
      have Hbt := hid hbt
      clear hcs hq hbt
      go_wp2_with fail
      go_roundw
      case rel => exact ⟨i + 1, by omega, by go_num, Hbt.out⟩
      case measure => simp [intOf]; omega
    · obtain rfl : i = L.length := by omega
      have bw : Below w0.heap.size w0 wr := B1.out.trans (hbt.mono B1.out.size)
      have hws : w0.heap.size ≤ wr.heap.size := bw.size
      have hxw : x < w0.heap.size := H.out.blk.lt
      have bR : Rcb wr x r room (.slice aP us.length cP) hi mi := (bw.block x hxw).trans H.out.blk
      have c4 : wr.cell? ⟨x, 4, none⟩ = some (.int .i64 mi) := bR.cell 4
      have f4 := bR.frozen 4
      have C2 : Hid (wr.cell? ⟨x, 2, none⟩ = some (.slice aP us.length cP)) := bR.cell 2
      obtain ⟨V, hV⟩ : ∃ V, V = wr.setCell ⟨x, 4, none⟩ (.int .i64 (mi + 1)) := ⟨_, rfl⟩
      have hVs : V.heap.size = wr.heap.size := by rw [hV]; simp [World.setCell]
      have VK : Hid (Rk X V r img puts fu off nb) := HK.out.keep (fun q hq hlt => by
        rw [hV, Below.heap_setCell _ _ _ _ (show q ≠ x from fun e => hd q hq (e ▸ H.out.xx))]
        exact bw.block q hlt)
      have hc : Rcs Y V x r room us hi (mi + 1) (.slice aP us.length cP) := by
        refine ⟨by rw [hV]; simpa [Rcb] using bR.set 4 (.int .i64 (mi + 1)), owns_keep H.out.row (fun g e => ?_), H.out.xx, H.out.xu⟩
        rw [hV, Below.heap_setCell _ _ _ _ (show g ≠ x from H.out.apart g e)]
        exact bw.block g (hY g (H.out.xu g e)).2
      have VC := hid hc
      have BV : Hid (But Z w0 V) := by
        show But Z w0 V
        rw [hV]
        exact (But.of_below bw).setCell (p := ⟨x, 4, none⟩) (hY x H.out.xx).1 _
      have q1 : V.cell? ⟨x, 2, none⟩ = some (.slice aP us.length cP) := hc.blk.cell 2
      have hr3 := hc.blk.lt
      have Hr3 := hid (owns_below hc.row ((Below.refl _ _).alloc (Nat.le_refl _) (.cells #[.int .i64 k, .string S] 128)))
      have ka1 : (V.alloc (.cells #[.int .i64 k, .string S] 128)).cell? ⟨x, 2, none⟩ = some (.slice aP us.length cP) := (World.cell?_alloc_past _ _ _ hr3).trans q1
      obtain ⟨i98, hi98, hz98, hs98, hb98⟩ := info_parts info128
      have Hbw := hid bw
      clear hc bw bR hbt
      have c2 : wr.cell? ⟨x, 2, none⟩ = some (.slice aP us.length cP) := C2.out
      have HV := hid hV
      clear hV ka1 q1
      go_wp2_with (at_builtin; go_loud ((try rw [← HV.out]); (try simp only [← hVs]); refine wpList_append_lies _ rfl _ _ 89 (by rfl) 0 128 i98 (.agg #[.int .i64 0, .string ⟨#[]⟩]) 2 24 Try.underlying89 hi98 hz98 hs98 hb98 rfl (by decide) _ us.length (ucs us) (by rfl) (by exact Hr3.out) ⟨V.heap.size, 0, none⟩ 1 1 [.int .i64 k, .string S] (by rfl) (by rfl) (by exact news2 V _ _ _) (by intro u hu; simp at hu; rcases hu with rfl | rfl <;> rfl) (by decide) (by unfold maxLen; omega) (by omega) (by first | omega | (simp; done) | (simp; omega)) (V.heap.size + 1) (by simp) ?_))
      intro g4 cap4 w6 ho4 hg4 hlie4 _
      have HO4 := hid ho4
      have HG4 : Hid ((V.alloc (.cells #[.int .i64 k, .string S] 128)).drew.grownBy w6 (Value.slice aP us.length cP).ownBlock) := by
        show World.grownBy _ _ _
        exact ⟨hg4.os, hg4.tape, hg4.output, hg4.size, hg4.block⟩
      have L4 : Hid ((Value.slice aP us.length cP).ownBlock = some g4 ∨ g4 = V.heap.size + 1) := by
        show _ ∨ _
        rw [hVs]
        exact hlie4
      have bb : Rcb w6 x r room (.slice aP us.length cP) hi (mi + 1) := ((hg4.block x (by simp; omega) (fun e => VC.out.apart x e.symm rfl)).trans (Below.heap_alloc _ _ _ hr3)).trans VC.out.blk
      have c1'' : w6.cell? ⟨x, 2, none⟩ = some (.slice aP us.length cP) := bb.cell 2
      have f1'' := bb.frozen 2
      have Hbb := hid bb
      clear ho4 hg4 hlie4 bb
      have FIN : Hid (Rp (fun k => Z k ∨ w0.heap.size ≤ k) (w6.setCell ⟨x, 2, none⟩ (.slice (some ⟨g4, 0, none⟩) (us.length + 1) cap4)) x r room (us ++ [(k, D)]) hi (mi + 1) img puts fu off nb ∧ But Z w0 (w6.setCell ⟨x, 2, none⟩ (.slice (some ⟨g4, 0, none⟩) (us.length + 1) cap4))) := by
        obtain ⟨h1, h2⟩ := Rp_push hd (fun q h => ⟨(hX q h).1, by have := (hX q h).2; omega⟩) (fun q h => ⟨(hY q h).1, by have := (hY q h).2; omega⟩) VK.out VC.out HG4.out L4.out HO4.out Hbb.out HS.out
        exact ⟨h1.mono (fun q h => h.imp id (fun h => by omega)), BV.out.trans h2⟩
      clear c4 f4 c2
      go_wp2
      go_ret2
      exact ⟨rfl, FIN.out⟩

end Go.Proofs.Ytfadnmdmohabmaa

/-
  The document's cache: Read of what is held.
-/
namespace Go.Proofs.Ytfadnmdmohabmaa
open Go.RowKit

set_option maxRecDepth 100000 in
set_option maxHeartbeats 4000000 in
theorem refCRead_hit {Z : Nat → Prop} {w : World} {x r room : Nat} {us : Us} {hi mi : Int} {img : List Int} {puts : List (Nat × List Int)} {fu : Int} {off : Bool} {nb : Nat} (h : Rp Z w x r room us hi mi img puts fu off nb) (hl : puts.length ≤ 1073741824) (hu : us.length ≤ 16777215) (hr : room ≤ 4096) (hhi : 0 ≤ hi ∧ hi < 4611686018427387904) (k : Int) (D : List Int) (hz : readR img puts off nb k = (0, D)) (j : Nat) (z : List Int) (hj : (heldU room us)[j]? = some (k, z)) (hm : ∀ i q, i < j → (heldU room us)[i]? = some q → q.1 ≠ k) :
    Calls Try.prog 39 #[.pointer (some ⟨x, 0, none⟩), .int .i64 k] w fun e w' => e = .returned (.tuple #[.string (strOfNums z), .int .i64 0]) ∧ Rp (fun k => Z k ∨ w.heap.size ≤ k) w' x r room (us ++ [(k, z)]) (hi + 1) mi img puts fu off nb ∧ But Z w w' := by
  obtain ⟨X, Y, uv, hd, hX, hY, hk, h⟩ := h
  obtain ⟨aP, cP, rfl, _⟩ := owns_slice h.row
  have c0 : w.cell? ⟨x, 0, none⟩ = some (.pointer (some ⟨r, 0, none⟩)) := h.blk.cell 0
  have HW := refRead_any hk k hl
  rw [hz] at HW
  have HW := hid HW
  have HH := hid (refHeld_any h.blk h.row (by omega) hr)
  have H := hid h
  have HK := hid hk
  have hlr : (heldU room us).length ≤ 4096 := by
    unfold heldU
    rw [back_take _ _ _ (by simp)]
    simp
    omega
  generalize heldU room us = L at *
  have hjl : j < L.length := (List.getElem?_eq_some_iff.1 hj).1
  have HJ := hid hj
  generalize strOfNums D = SD at *
  generalize hS : strOfNums z = S at *
  have HS := hid hS
  clear h hk hz hS hj
  go_enter Try.func39, Try.ntmps39
  go_wp2_with fail
  refine Calls.mono HW.out ?_
  rintro e w0 ⟨rfl, rfl⟩
  clear HW
  go_wp2_with fail
  refine Calls.mono HH.out ?_
  rintro e w1 ⟨al, cp, rfl, hO, b1⟩
  have HO := hid hO
  have B1 := hid b1
  clear HH hO b1
  go_wp2_with fail
  go_loopw [9] (fun iv wt => ∃ i : Nat, i ≤ j ∧ iv = .int .i64 (i : Int) ∧ Below w1.heap.size w1 wt) (fun iv _ => j - (intOf iv).toNat)
  case atStart => exact ⟨0, Nat.zero_le _, rfl, Below.refl _ _⟩
  case round =>
    obtain ⟨i, hi', rfl, hbt⟩ := hrel
    obtain ⟨g, rfl, hgB, hgl, hcs⟩ := OwU.cells HO.out (by omega)
    by_cases hin : i < j
    · have hq : L[i]? = some (L[i]'(by omega)) := List.getElem?_eq_getElem (by omega)
      have c0 := (hbt.cell (p := ⟨g, i * 2, none⟩) hgl).trans (hcs i _ hq).1
      have hne := hm i _ hin hq
      have hin' : (i : Int) < (L.length : Int) := by omega
      generalize (L[i]'(by omega)) = q at *
      have Hbt := hid hbt
      clear hcs hq hbt
      go_wp2_with fail
      go_roundw
      case rel => exact ⟨i + 1, by omega, by go_num, Hbt.out⟩
      case measure => simp [intOf]; omega
    · obtain rfl : i = j := by omega
      have bw : Below w0.heap.size w0 wr := B1.out.trans (hbt.mono B1.out.size)
      have hws : w0.heap.size ≤ wr.heap.size := bw.size
      have hgw : g < wr.heap.size := by have := hbt.size; omega
      have hxw : x < w0.heap.size := H.out.blk.lt
      have hgx : g ≠ x := by omega
      obtain ⟨l0, l1⟩ := hcs i _ HJ.out
      have l0 := (hbt.cell (p := ⟨g, i * 2, none⟩) hgl).trans l0
      have l1 := (hbt.cell (p := ⟨g, i * 2 + 1, none⟩) hgl).trans l1
      simp only [HS.out] at l1
      have bR : Rcb wr x r room (.slice aP us.length cP) hi mi := (bw.block x hxw).trans H.out.blk
      have c3 : wr.cell? ⟨x, 3, none⟩ = some (.int .i64 hi) := bR.cell 3
      have f3 := bR.frozen 3
      obtain ⟨V, hV⟩ : ∃ V, V = wr.setCell ⟨x, 3, none⟩ (.int .i64 (hi + 1)) := ⟨_, rfl⟩
      have hVs : V.heap.size = wr.heap.size := by rw [hV]; simp [World.setCell]
      have VK : Hid (Rk X V r img puts fu off nb) := HK.out.keep (fun q hq hlt => by
        rw [hV, Below.heap_setCell _ _ _ _ (show q ≠ x from fun e => hd q hq (e ▸ H.out.xx))]
        exact bw.block q hlt)
      have hc : Rcs Y V x r room us (hi + 1) mi (.slice aP us.length cP) := by
        refine ⟨by rw [hV]; simpa [Rcb] using bR.set 3 (.int .i64 (hi + 1)), owns_keep H.out.row (fun g e => ?_), H.out.xx, H.out.xu⟩
        rw [hV, Below.heap_setCell _ _ _ _ (show g ≠ x from H.out.apart g e)]
        exact bw.block g (hY g (H.out.xu g e)).2
      have VC := hid hc
      have BV : Hid (But Z w0 V) := by
        show But Z w0 V
        rw [hV]
        exact (But.of_below bw).setCell (p := ⟨x, 3, none⟩) (hY x H.out.xx).1 _
      have hgV : V.heap[g]? = wr.heap[g]? := by rw [hV, Below.heap_setCell _ _ _ _ (show g ≠ x from hgx)]
      have v0 : V.cell? ⟨g, i * 2, none⟩ = some (.int .i64 k) := (World.cell?_of_block (a := ⟨g, i * 2, none⟩) hgV).trans l0
      have v1 : V.cell? ⟨g, i * 2 + 1, none⟩ = some (.string S) := (World.cell?_of_block (a := ⟨g, i * 2 + 1, none⟩) hgV).trans l1
      have hgV2 : g < V.heap.size := by omega
      have HVs := hid hVs
      have nY : ¬ Y g := fun hy => by have := (hY g hy).2; omega
      have q1 : V.cell? ⟨x, 2, none⟩ = some (.slice aP us.length cP) := hc.blk.cell 2
      have hr3 := hc.blk.lt
      have Hr3 := hid (owns_below hc.row ((Below.refl _ _).alloc (Nat.le_refl _) (.cells #[.int .i64 k, .string S] 128)))
      have ka1 : (V.alloc (.cells #[.int .i64 k, .string S] 128)).cell? ⟨x, 2, none⟩ = some (.slice aP us.length cP) := (World.cell?_alloc_past _ _ _ hr3).trans q1
      obtain ⟨i98, hi98, hz98, hs98, hb98⟩ := info_parts info128
      have Hbw := hid bw
      have hil : (i : Int) < (L.length : Int) := by omega
      clear hc bw bR hbt hcs hVs
      go_wp2_with fail
      simp only [← hV]
      have HV := hid hV
      clear hV c3 f3 l0 l1
      go_region_law (first
        | (refine step_append_lies _ (by rfl) _ _ _ (by rfl) 0 128 i98 (.agg #[.int .i64 0, .string ⟨#[]⟩]) 2 24 Try.underlying89 hi98 hz98 hs98 hb98 rfl (by decide) _ us.length (ucs us) (by rfl) (by exact Hr3.out) ⟨V.heap.size, 0, none⟩ 1 1 [.int .i64 k, .string S] (by rfl) (by rfl) (by exact news2 V _ _ _) (by intro u hu; simp at hu; rcases hu with rfl | rfl <;> rfl) (by decide) (by unfold maxLen; omega) (by omega) (by omega) (V.heap.size + 1) (by simp) ?_; intro g4 cap4 w6 ho4 hg4 hlie4 _; have HO4 := hid ho4; have HG4 : Hid ((V.alloc (.cells #[.int .i64 k, .string S] 128)).drew.grownBy w6 (Value.slice aP us.length cP).ownBlock) := hg4; have L4 : Hid ((Value.slice aP us.length cP).ownBlock = some g4 ∨ g4 = V.heap.size + 1) := hlie4; have bb : Rcb w6 x r room (.slice aP us.length cP) (hi + 1) mi := ((hg4.block x (by simp; omega) (fun e => VC.out.apart x e.symm rfl)).trans (Below.heap_alloc _ _ _ hr3)).trans VC.out.blk; have c1'' : w6.cell? ⟨x, 2, none⟩ = some (.slice aP us.length cP) := bb.cell 2; have f1'' := bb.frozen 2; have Hbb := hid bb; have g6 : w6.cell? ⟨g, i * 2 + 1, none⟩ = some (.string S) := (World.cell?_of_block (a := ⟨g, i * 2 + 1, none⟩) ((hg4.block g (by simp; omega) (fun e => nY (VC.out.xu g e.symm))).trans (Below.heap_alloc _ _ _ (by omega)))).trans v1; clear ho4 hg4 hlie4 bb))
      all_goals
        have FIN : Hid (Rp (fun k => Z k ∨ w0.heap.size ≤ k) (w6.setCell ⟨x, 2, none⟩ (.slice (some ⟨g4, 0, none⟩) (us.length + 1) cap4)) x r room (us ++ [(k, z)]) (hi + 1) mi img puts fu off nb ∧ But Z w0 (w6.setCell ⟨x, 2, none⟩ (.slice (some ⟨g4, 0, none⟩) (us.length + 1) cap4))) := by
          have hVs := HVs.out
          obtain ⟨h1, h2⟩ := Rp_push hd (fun q h => ⟨(hX q h).1, by have := (hX q h).2; omega⟩) (fun q h => ⟨(hY q h).1, by have := (hY q h).2; omega⟩) VK.out VC.out HG4.out L4.out HO4.out Hbb.out HS.out
          exact ⟨h1.mono (fun q h => h.imp id (fun h => by omega)), BV.out.trans h2⟩
        clear ka1 q1
        go_wp2
        go_ret2
        exact ⟨rfl, FIN.out⟩

end Go.Proofs.Ytfadnmdmohabmaa
