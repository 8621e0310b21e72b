/-
  The document's cache: its state; New, Counts, Forget, Flush, Held.
-/
import Derived.Test.YtfadnmdmohabmaaRua
import Derived.Test.YtfadnmdmohabmaaRfc
import Derived.Test.YtfadnmdmohabmaaRfb
namespace Go.Proofs.Ytfadnmdmohabmaa
open Go.RowKit

/-- the document's cache in block x, on the disk in block r; X: where it lies -/
structure Rcs (X : Nat → Prop) (w : World) (x r room : Nat) (us : Us) (hi mi : Int) (uv : Value) : Prop where
  blk : Rcb w x r room uv hi mi
  row : OwU 0 w uv us
  xx : X x
  xu : ∀ g, uv.ownBlock = some g → X g
theorem Rcs.keep {X : Nat → Prop} {w w' : World} {x r room : Nat} {us : Us} {hi mi : Int} {uv : Value} (h : Rcs X w x r room us hi mi uv) (hk : ∀ k, X k → k < w.heap.size → w'.heap[k]? = w.heap[k]?) : Rcs X w' x r room us hi mi uv :=
  ⟨(hk x h.xx h.blk.lt).trans h.blk, owns_keep h.row (fun g e => hk g (h.xu g e) (World.ownsRow.lt h.row g e).2), h.xx, h.xu⟩
theorem Rcb.set {w : World} {x r room : Nat} {uv : Value} {hi mi : Int} (h : Rcb w x r room uv hi mi) (t : Nat) (v : Value) : (w.setCell ⟨x, t, none⟩ v).heap[x]? = some (.cells (#[.pointer (some ⟨r, 0, none⟩), .int .i64 (room : Int), uv, .int .i64 hi, .int .i64 mi].setIfInBounds t v) 91 (0, 0)) := by
  unfold Rcb at h
  simp only [World.setCell, Array.getElem?_modify]
  rw [h]
  simp
theorem refCNew_ok {w : World} (r room : Nat) (lo : 1 ≤ room) (hi : room ≤ 4096) :
    Calls Try.prog 21 #[.pointer (some ⟨r, 0, none⟩), .int .i64 (room : Int)] w fun e w' => e = .returned (.tuple #[.pointer (some ⟨w.heap.size, 0, none⟩), .int .i64 0]) ∧ Rcs (fun k => w.heap.size ≤ k) w' w.heap.size r room [] 0 0 (.slice none 0 0) ∧ Below w.heap.size w w' := by
  have n0 : ¬ ((room : Int) < 1) := by omega
  have n1 : ¬ ((4096 : Int) < (room : Int)) := by omega
  have FIN : Hid (Rcs (fun k => w.heap.size ≤ k) (w.alloc (.cells #[.pointer (some ⟨r, 0, none⟩), .int .i64 (room : Int), .slice none 0 0, .int .i64 0, .int .i64 0] 91)) w.heap.size r room [] 0 0 (.slice none 0 0)) :=
    ⟨by show (w.heap.push _)[w.heap.size]? = _; simp, OwU.nil _ _, Nat.le_refl _, fun g e => by cases e⟩
  go_enter Try.func21, Try.ntmps21
  go_wp2
  go_ret2
  exact ⟨rfl, FIN.out, (Below.refl _ _).alloc (Nat.le_refl _) _⟩
theorem refCNew_bad {w : World} (v : Value) (room : Int) (h : room < 1 ∨ 4096 < room) :
    Calls Try.prog 21 #[v, .int .i64 room] w fun e w' => e = .returned (.tuple #[.pointer none, .int .i64 30]) ∧ w' = w := by
  go_enter Try.func21, Try.ntmps21
  by_cases h1 : room < 1
  · go_wp2
    go_ret2
    exact ⟨rfl, rfl⟩
  · have h2 : 4096 < room := by omega
    go_wp2
    go_ret2
    exact ⟨rfl, rfl⟩
theorem refCounts_any {X : Nat → Prop} {w : World} {x r room : Nat} {us : Us} {hi mi : Int} {uv : Value} (h : Rcs X w x r room us hi mi uv) :
    Calls Try.prog 48 #[.pointer (some ⟨x, 0, none⟩)] w fun e w' => e = .returned (.tuple #[.int .i64 hi, .int .i64 mi, .int .i64 0]) ∧ w' = w.drew := by
  have c3 : w.cell? ⟨x, 3, none⟩ = some (.int .i64 hi) := h.blk.cell 3
  have c4 : w.cell? ⟨x, 4, none⟩ = some (.int .i64 mi) := h.blk.cell 4
  clear h
  go_enter Try.func48, Try.ntmps48
  go_wp2
  go_region
  all_goals go_wp2
  all_goals
    go_ret3
    exact ⟨rfl, rfl⟩
theorem refForget_any {X : Nat → Prop} {w : World} {x r room : Nat} {us : Us} {hi mi : Int} {uv : Value} (h : Rcs X w x r room us hi mi uv) :
    Calls Try.prog 49 #[.pointer (some ⟨x, 0, none⟩)] w fun e w' => e = .returned (.int .i64 0) ∧ Rcs X w' x r room [] hi mi (.slice none 0 0) ∧ But X w w' := by
  have c2 : w.cell? ⟨x, 2, none⟩ = some uv := h.blk.cell 2
  have f2 := h.blk.frozen 2
  have FIN : Hid (Rcs X (w.setCell ⟨x, 2, none⟩ (.slice none 0 0)) x r room [] hi mi (.slice none 0 0) ∧ But X w (w.setCell ⟨x, 2, none⟩ (.slice none 0 0))) :=
    ⟨⟨by simpa [Rcb] using h.blk.set 2 (.slice none 0 0), OwU.nil _ _, h.xx, fun g e => by cases e⟩, (But.refl X w).setCell (p := ⟨x, 2, none⟩) h.xx _⟩
  clear h
  go_enter Try.func49, Try.ntmps49
  go_wp2
  go_ret
  exact ⟨rfl, FIN.out.1, FIN.out.2⟩
theorem refCFlush_disk {w : World} {x r room : Nat} {uv : Value} {hi mi : Int} (h : Rcb w x r room uv hi mi) {R : Int → World → Prop} (H : Calls Try.prog 78 #[.pointer (some ⟨r, 0, none⟩)] w fun e w' => ∃ y, e = .returned (.int .i64 y) ∧ R y w') :
    Calls Try.prog 50 #[.pointer (some ⟨x, 0, none⟩)] w fun e w' => ∃ y, e = .returned (.int .i64 y) ∧ R y w' := by
  have c0 : w.cell? ⟨x, 0, none⟩ = some (.pointer (some ⟨r, 0, none⟩)) := h.cell 0
  have HF := hid H
  clear h H
  go_enter Try.func50, Try.ntmps50
  go_wp2_with fail
  refine Calls.mono HF.out ?_
  rintro q w1 ⟨y, rfl, h1⟩
  have FIN := hid h1
  clear h1 HF
  go_wp2
  go_ret
  exact ⟨y, rfl, FIN.out⟩

end Go.Proofs.Ytfadnmdmohabmaa

/-
  The document's cache: Held.
-/
namespace Go.Proofs.Ytfadnmdmohabmaa
open Go.RowKit

set_option maxRecDepth 100000 in
set_option maxHeartbeats 4000000 in
theorem refCHeld_any {X : Nat → Prop} {w : World} {x r room : Nat} {us : Us} {hi mi : Int} {uv : Value} (h : Rcs X w x r room us hi mi uv) (hn : us.length ≤ 16777216) (hr : room ≤ 4096) :
    Calls Try.prog 45 #[.pointer (some ⟨x, 0, none⟩)] w fun e w' => ∃ al cp, e = .returned (.tuple #[.slice al (heldU room us).length cp, .int .i64 0]) ∧ RdI w'.heap.size w' al (heldU room us).length ((heldU room us).map (·.1)) ∧ Below w.heap.size w w' := by
  obtain ⟨a, c, rfl, _⟩ := owns_slice h.row
  have HH := hid (refHeld_any h.blk h.row hn hr)
  obtain ⟨i3, hi3, hz3, hs3, hb3⟩ := info_parts infoI
  have hlr : (heldU room us).length ≤ 4096 := by
    unfold heldU
    rw [back_take _ _ _ (by simp)]
    simp
    omega
  clear h
  generalize heldU room us = L at *
  obtain ⟨KS, hKS⟩ : ∃ KS : List Int, KS = L.map (·.1) := ⟨_, rfl⟩
  rw [← hKS]
  have HKS := hid hKS
  have hkl : Hid (KS.length = L.length) := by show _ = _; rw [hKS]; simp
  clear hKS
  go_enter Try.func45, Try.ntmps45
  go_wp2_with fail
  refine Calls.mono HH.out ?_
  rintro e w1 ⟨al, cp, rfl, hO, b1⟩
  have H1 := hid (And.intro hO b1)
  clear hO b1 HH
  go_wp2_with fail
  go_loopw [5, 6] (fun ov iv wt => ∃ k : Nat, k ≤ L.length ∧ iv = .int .i64 (k : Int) ∧ OwI w1.heap.size wt ov k (KS.take k) ∧ Below w1.heap.size w1 wt) (fun _ iv _ => L.length - (intOf iv).toNat)
  case atStart => exact ⟨0, Nat.zero_le _, rfl, OwI.nil _ _, Below.refl _ _⟩
  case round =>
    obtain ⟨k, hk, rfl, hO, hbt⟩ := hrel
    obtain ⟨aO, cO, rfl, _⟩ := owns_slice hO
    by_cases hkn : k < L.length
    · obtain ⟨g, rfl, _, hgl, hcs⟩ := OwU.cells H1.out.1 (by omega)
      have hq : L[k]? = some L[k] := List.getElem?_eq_getElem hkn
      have c0 := (hbt.cell (p := ⟨g, k * 2, none⟩) hgl).trans (hcs k _ hq).1
      have hkn' : (k : Int) < (L.length : Int) := by omega
      have hst : KS.take (k + 1) = KS.take k ++ [L[k].1] := by
        rw [HKS.out, List.take_succ_eq_append_getElem (by simpa using hkn)]
        simp
      generalize L[k] = q at *
      have HOa := hid (hO.alloc (.cells #[.int .i64 q.1] 3))
      have Hst := hid hst
      have Hbt := hid hbt
      have hws : w1.heap.size ≤ wr.heap.size := hbt.size
      clear hcs hq hst hO hbt
      go_wp2_with (at_builtin; refine wpList_append_lies _ rfl _ _ 43 (by rfl) w1.heap.size 3 i3 (.int .i64 0) 1 8 Try.underlying43 hi3 hz3 hs3 hb3 rfl (by decide) _ k ((KS.take k).map (Value.int .i64)) (by rfl) HOa.out ⟨wr.heap.size, 0, none⟩ 1 1 [.int .i64 q.1] (by rfl) (by rfl) (by exact newsV1 _ _ _ rfl) (by intro u hu; simp at hu; subst hu; rfl) (by decide) (by unfold maxLen; omega) (by omega) (by simp; omega) (wr.heap.size + 1) (by simp) ?_)
      intro g4 cap4 w6 ho4 hg4 hlie4 _
      have HO4 := hid ho4
      have HB4 := hid ((Hbt.out.alloc hws (.cells #[.int .i64 q.1] 3)).grown hg4 (by simp; omega) (fun x e => (World.ownsRow.lt HOa.out x e).1))
      clear ho4 hg4 hlie4 c0
      go_wp2_with fail
      go_roundw
      case rel => exact ⟨k + 1, by omega, by go_num, by rw [Hst.out]; unfold OwI; rw [List.map_append, List.map_take]; exact HO4.out, HB4.out⟩
      case measure => simp [intOf]; omega
    · obtain rfl : k = L.length := by omega
      have FIN : Hid (RdI wr.heap.size wr aO L.length KS ∧ Below w.heap.size w wr) := by
        rw [List.take_of_length_le (by have := hkl.out; omega)] at hO
        exact ⟨hO.rdi, H1.out.2.trans (hbt.mono H1.out.2.size)⟩
      clear hO hbt
      go_wp2
      go_ret2
      exact ⟨aO, cO, rfl, FIN.out.1, FIN.out.2⟩

end Go.Proofs.Ytfadnmdmohabmaa

/-
  The document's cache and its disk together; Write.
-/
namespace Go.Proofs.Ytfadnmdmohabmaa
open Go.RowKit

theorem Rk.lt {X : Nat → Prop} {w : World} {r : Nat} {img : List Int} {puts : List (Nat × List Int)} {fu : Int} {off : Bool} {nb : Nat} (h : Rk X w r img puts fu off nb) : Rk (fun k => X k ∧ k < w.heap.size) w r img puts fu off nb := by
  obtain ⟨lv, pv, h⟩ := h
  exact ⟨lv, pv, h.blk, h.rowL, h.rowP, h.len, h.lo, h.hi, h.dat, ⟨h.xr, h.blk.lt⟩, fun g e => ⟨h.xl g e, (World.ownsRow.lt h.rowL g e).2⟩, fun g e => ⟨h.xp g e, (World.ownsRow.lt h.rowP g e).2⟩, h.fus⟩
theorem Rcs.lt {X : Nat → Prop} {w : World} {x r room : Nat} {us : Us} {hi mi : Int} {uv : Value} (h : Rcs X w x r room us hi mi uv) : Rcs (fun k => X k ∧ k < w.heap.size) w x r room us hi mi uv :=
  ⟨h.blk, h.row, ⟨h.xx, h.blk.lt⟩, fun g e => ⟨h.xu g e, (World.ownsRow.lt h.row g e).2⟩⟩
theorem Rcs.mono {X Y : Nat → Prop} {w : World} {x r room : Nat} {us : Us} {hi mi : Int} {uv : Value} (h : Rcs X w x r room us hi mi uv) (hx : ∀ k, X k → Y k) : Rcs Y w x r room us hi mi uv :=
  ⟨h.blk, h.row, hx _ h.xx, fun g e => hx _ (h.xu g e)⟩
theorem Rcs.apart {X : Nat → Prop} {w : World} {x r room : Nat} {us : Us} {hi mi : Int} {uv : Value} (h : Rcs X w x r room us hi mi uv) : ∀ g, uv.ownBlock = some g → g ≠ x := fun g hg e => by
  obtain ⟨c, hc⟩ := row_kind h.row hg
  have hb : w.heap[x]? = _ := h.blk
  rw [e, hb] at hc; cases hc

/-- the document's cache in block x and its disk in block r, both in Z, apart -/
def Rp (Z : Nat → Prop) (w : World) (x r room : Nat) (us : Us) (hi mi : Int) (img : List Int) (puts : List (Nat × List Int)) (fu : Int) (off : Bool) (nb : Nat) : Prop :=
  ∃ (X Y : Nat → Prop) (uv : Value), (∀ k, X k → Y k → False) ∧ (∀ k, X k → Z k ∧ k < w.heap.size) ∧ (∀ k, Y k → Z k ∧ k < w.heap.size) ∧ Rk X w r img puts fu off nb ∧ Rcs Y w x r room us hi mi uv

set_option maxRecDepth 100000 in
set_option maxHeartbeats 4000000 in
theorem refCWrite_any {Z : Nat → Prop} {w : World} {x r room : Nat} {us : Us} {hi mi : Int} {img : List Int} {puts : List (Nat × List Int)} {fu : Int} {off : Bool} {nb : Nat} (h : Rp Z w x r room us hi mi img puts fu off nb) (hl : puts.length ≤ 1073741823) (hu : us.length ≤ 1073741823) (k : Int) (ad : Option Addr) (n c : Nat) (zs : List Int) (hR : RdN Z w ad n zs) :
    Calls Try.prog 43 #[.pointer (some ⟨x, 0, none⟩), .int .i64 k, .slice ad n c] w fun e w' => e = .returned (.int .i64 (writeC off fu nb k n)) ∧ Rp (fun k => Z k ∨ w.heap.size ≤ k) w' x r room (if writeC off fu nb k n = 0 then us ++ [(k, zs)] else us) hi mi img (if writeC off fu nb k n = 0 then puts ++ [(k.toNat, zs)] else puts) (writeF off fu nb k n) (writeO off fu nb k n) nb ∧ But Z w w' := by
  obtain ⟨X, Y, uv, hd, hX, hY, hk, h⟩ := h
  have c0 : w.cell? ⟨x, 0, none⟩ = some (.pointer (some ⟨r, 0, none⟩)) := h.blk.cell 0
  have HW := hid (refWrite_any hk hl k ad n c zs (hR.mono (fun q _ hq => (hX q hq).1)))
  have H := hid h
  have HR := hid hR
  clear h hR hk
  by_cases hz : writeC off fu nb k n = 0
  · have hn : n = 512 := by
      by_cases hn : n = 512
      · exact hn
      · unfold writeC at hz
        rw [if_pos hn] at hz
        split at hz
        · omega
        · split at hz <;> omega
    subst hn
    go_enter Try.func43, Try.ntmps43
    go_wp2_with fail
    refine Calls.mono HW.out ?_
    rintro e w3 ⟨rfl, hk3, u3⟩
    have hk3 := hk3.lt
    have h3 := H.out.keep (w' := w3) (fun q hq _ => u3.block q (hY q hq).2 (fun hx => hd q hx hq))
    have hww : w.heap.size ≤ w3.heap.size := u3.size
    have U3 := hid (u3.mono (Y := Z) (fun q _ e => (hX q e).1))
    have HK3 := hid hk3
    have H3 := hid h3
    clear u3 c0 HW hk3
    obtain ⟨aP, cP, rfl, _⟩ := owns_slice h3.row
    have q1 : w3.cell? ⟨x, 2, none⟩ = some (.slice aP us.length cP) := h3.blk.cell 2
    have hr3 := h3.blk.lt
    have hrd := (HR.out.but U3.out).rd
    have cv0 : (convert 34 9 (.slice ad 512 c)).run Try.prog w3 = .ok (.string (strOfNums zs)) w3 := conv_str hrd c
    have cv1 : (convert 34 9 (.slice ad 512 c)).run Try.prog w3.drew = .ok (.string (strOfNums zs)) w3.drew := conv_str (w := w3.drew) hrd c
    generalize hS : strOfNums zs = S at *
    have Hr3 := hid (owns_below h3.row ((Below.refl _ _).alloc (Nat.le_refl _) (.cells #[.int .i64 k, .string S] 128)))
    have ka1 : (w3.alloc (.cells #[.int .i64 k, .string S] 128)).cell? ⟨x, 2, none⟩ = some (.slice aP us.length cP) := (World.cell?_alloc_past _ _ _ hr3).trans q1
    obtain ⟨i98, hi98, hz98, hs98, hb98⟩ := info_parts info128
    simp only [hz]
    have Hz := hid hz
    have HS := hid hS
    clear h3 hrd hz hS
    go_wp2_with fail
    go_region_law (first
      | (refine step_append_lies _ (by rfl) _ _ _ (by rfl) 0 128 i98 (.agg #[.int .i64 0, .string ⟨#[]⟩]) 2 24 Try.underlying89 hi98 hz98 hs98 hb98 rfl (by decide) _ us.length (ucs us) (by rfl) (by exact Hr3.out) ⟨w3.heap.size, 0, none⟩ 1 1 [.int .i64 k, .string S] (by rfl) (by rfl) (by exact news2 w3 _ _ _) (by intro u hu; simp at hu; rcases hu with rfl | rfl <;> rfl) (by decide) (by unfold maxLen; omega) (by omega) (by omega) (w3.heap.size + 1) (by simp) ?_; intro g4 cap4 w6 ho4 hg4 hlie4 _; have HO4 := hid ho4; have HG4 : Hid ((w3.alloc (.cells #[.int .i64 k, .string S] 128)).drew.grownBy w6 (Value.slice aP us.length cP).ownBlock) := hg4; have L4 : Hid ((Value.slice aP us.length cP).ownBlock = some g4 ∨ g4 = w3.heap.size + 1) := hlie4; have bb : Rcb w6 x r room (.slice aP us.length cP) hi mi := ((hg4.block x (by simp; omega) (fun e => H3.out.apart x e.symm rfl)).trans (Below.heap_alloc _ _ _ hr3)).trans H3.out.blk; have c1'' : w6.cell? ⟨x, 2, none⟩ = some (.slice aP us.length cP) := bb.cell 2; have f1'' := bb.frozen 2; have Hbb := hid bb; clear ho4 hg4 hlie4 bb))
    all_goals
      have FIN : Hid (Rp (fun k => Z k ∨ w.heap.size ≤ k) (w6.setCell ⟨x, 2, none⟩ (.slice (some ⟨g4, 0, none⟩) (us.length + 1) cap4)) x r room (us ++ [(k, zs)]) hi mi img (puts ++ [(k.toNat, zs)]) (writeF off fu nb k 512) (writeO off fu nb k 512) nb ∧ But Z w (w6.setCell ⟨x, 2, none⟩ (.slice (some ⟨g4, 0, none⟩) (us.length + 1) cap4))) := by
        show _ ∧ _
        have h3 := H3.out
        have ha := h3.apart
        have hx3 : x < w3.heap.size := h3.blk.lt
        have hg4 : g4 ≠ x := fun e => by
          rcases L4.out with q | q
          · exact ha g4 q e
          · omega
        have hs6 : w3.heap.size + 1 ≤ w6.heap.size := by simpa using HG4.out.size
        have hsz : (w6.setCell ⟨x, 2, none⟩ (.slice (some ⟨g4, 0, none⟩) (us.length + 1) cap4)).heap.size = w6.heap.size := by simp [World.setCell]
        refine ⟨⟨fun q => (X q ∨ w.heap.size ≤ q) ∧ q < w3.heap.size, fun q => Y q ∨ (w3.heap.size ≤ q ∧ q < w6.heap.size), .slice (some ⟨g4, 0, none⟩) (us.length + 1) cap4, ?_, ?_, ?_, ?_, ?_⟩, (((U3.out.alloc _).drew.of_grown HG4.out (fun q e _ => (hY q (h3.xu q e)).1)).setCell (p := ⟨x, 2, none⟩) (hY x h3.xx).1 _)⟩
        · rintro q ⟨h1, h2⟩ (h4 | h4)
          · rcases h1 with h1 | h1
            · exact hd q h1 h4
            · have := (hY q h4).2; omega
          · omega
        · rintro q ⟨h1, h2⟩
          rw [hsz]
          exact ⟨h1.imp (fun h => (hX q h).1) id, by omega⟩
        · rintro q (h1 | h1)
          · rw [hsz]
            exact ⟨.inl (hY q h1).1, by have := (hY q h1).2; omega⟩
          · rw [hsz]
            exact ⟨.inr (by omega), h1.2⟩
        · have hk := HK3.out
          rw [if_pos Hz.out] at hk
          refine hk.keep (fun q hq hq3 => ?_)
          have nY : ¬ Y q := fun hy => by
            rcases hq.1 with h1 | h1
            · exact hd q h1 hy
            · have := (hY q hy).2; omega
          rw [Below.heap_setCell _ _ _ _ (show q ≠ x from fun e => nY (e ▸ h3.xx)), HG4.out.block q (by simp; omega) (fun e2 => nY (h3.xu q e2.symm))]
          exact Below.heap_alloc _ _ _ hq3
        · refine ⟨by simpa [Rcb] using Hbb.out.set 2 (.slice (some ⟨g4, 0, none⟩) (us.length + 1) cap4), ?_, .inl h3.xx, ?_⟩
          · unfold OwU
            rw [ucs_snoc, HS.out]
            have := owns_setCell HO4.out (p := ⟨x, 2, none⟩) (fun e => by simp [Value.ownBlock] at e; exact hg4 e) (.slice (some ⟨g4, 0, none⟩) (us.length + 1) cap4)
            simpa using this
          · intro g e
            cases e
            rcases L4.out with q | q
            · exact .inl (h3.xu g4 q)
            · exact .inr (show w3.heap.size ≤ g4 ∧ g4 < w6.heap.size from ⟨by omega, (World.ownsRow.lt HO4.out g4 rfl).2⟩)
      clear c1'' f1'' ka1 q1 cv0 cv1
      go_wp2
      go_ret
      exact ⟨rfl, FIN.out⟩
  · go_enter Try.func43, Try.ntmps43
    go_wp2_with fail
    refine Calls.mono HW.out ?_
    rintro e w3 ⟨rfl, hk3, u3⟩
    have hk3 := hk3.lt
    have h3 := H.out.keep (w' := w3) (fun q hq _ => u3.block q (hY q hq).2 (fun hx => hd q hx hq))
    have hww : w.heap.size ≤ w3.heap.size := u3.size
    have U3 := hid (u3.mono (Y := Z) (fun q _ e => (hX q e).1))
    have HK3 := hid hk3
    have H3 := hid h3
    clear u3 c0 HW hk3
    have FIN : Hid (Rp (fun k => Z k ∨ w.heap.size ≤ k) w3 x r room us hi mi img puts (writeF off fu nb k n) (writeO off fu nb k n) nb ∧ But Z w w3) := by
      show _ ∧ _
      have hk := HK3.out
      rw [if_neg hz] at hk
      refine ⟨⟨_, Y, uv, ?_, ?_, ?_, hk, H3.out⟩, U3.out⟩
      · rintro q ⟨h1, h2⟩ h4
        rcases h1 with h1 | h1
        · exact hd q h1 h4
        · have := (hY q h4).2; omega
      · rintro q ⟨h1, h2⟩
        exact ⟨h1.imp (fun h => (hX q h).1) id, h2⟩
      · intro q h1
        exact ⟨.inl (hY q h1).1, by have := (hY q h1).2; omega⟩
    clear h3 HK3
    go_wp2
    go_ret
    exact ⟨rfl, FIN.out⟩

end Go.Proofs.Ytfadnmdmohabmaa
