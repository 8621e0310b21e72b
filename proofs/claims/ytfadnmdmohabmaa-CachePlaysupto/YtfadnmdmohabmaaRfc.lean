/-
  The document's disk: Flush, New.
-/
import Derived.Test.YtfadnmdmohabmaaRf4
namespace Go.Proofs.Ytfadnmdmohabmaa
open Go.RowKit

theorem layB_all (img : List Int) (puts : List (Nat × List Int)) : layB img puts (List.replicate puts.length true) puts.length = flushZ img puts := by
  have key : ∀ k, k ≤ puts.length → layB img puts (List.replicate puts.length true) k = (puts.take k).foldl (fun im q => splice im (q.1 * 512) q.2) img := by
    intro k
    induction k with
    | zero => intro _; rfl
    | succ k ih =>
      intro hk
      rw [layB_succ, ih (by omega), fold_snoc _ _ _ (by omega : k < puts.length)]
      have e : puts.getD k (0, []) = puts[k] := by simp [show k < puts.length by omega]
      rw [e, if_pos (by simp [show k < puts.length by omega])]
  have := key puts.length (Nat.le_refl _)
  rw [List.take_length] at this
  exact this

set_option maxRecDepth 100000 in
set_option maxHeartbeats 1000000 in
theorem refFlush_any {X : Nat → Prop} {w : World} {r : Nat} {img : List Int} {puts : List (Nat × List Int)} {fu : Int} {off : Bool} {nb : Nat} (h : Rk X w r img puts fu off nb) (hl : puts.length ≤ 1073741824) :
    Calls Try.prog 78 #[.pointer (some ⟨r, 0, none⟩)] w fun e w' => e = .returned (.int .i64 (flushC off fu)) ∧ Rk (fun x => X x ∨ w.heap.size ≤ x) w' r (if flushC off fu = 0 then flushZ img puts else img) (if flushC off fu = 0 then [] else puts) (afterF off fu) (afterO off fu) nb ∧ But X w w' := by
  obtain ⟨lv, pv, h⟩ := h
  have q2 := h.blk.cell 2
  simp only [List.getElem?_toArray, List.getElem?_cons_succ, List.getElem?_cons_zero] at q2
  have H := hid h
  have HB := hid (burns_any h)
  clear h
  cases off
  · have e1 : flushC false fu = burnC fu := rfl
    have e2 : afterF false fu = burnF fu := rfl
    have e3 : afterO false fu = burnO fu false := rfl
    rw [e1, e2, e3]
    clear e1 e2 e3
    go_enter Try.func78, Try.ntmps78
    go_wp2_with fail
    refine Calls.mono HB.out ?_
    rintro e w3 ⟨rfl, h3, u3⟩
    have H3 := hid h3
    have U3 := hid (u3.mono (Y := X) (fun x _ e => e ▸ H.out.xr))
    clear u3 q2 HB
    by_cases hz : burnC fu = 0
    · have HA := hid (all_any h3 hl)
      simp only [hz]
      clear h3
      go_wp2_with fail
      refine Calls.mono HA.out ?_
      rintro e w4 ⟨a, c, rfl, hT, hb4⟩
      have h4 := H3.out.keep (w' := w4) (fun x _ hx => hb4.block x hx)
      have HL := hid (laid_any h4 hl a c _ hT)
      have Hb4 := hid hb4
      clear hT hb4 h4 HA
      go_wp2_with fail
      refine Calls.mono HL.out ?_
      rintro e w5 ⟨g, cp, rfl, hg, hO, hb5⟩
      have h5 := (H3.out.keep (w' := w4) (fun x _ hx => Hb4.out.block x hx)).keep (w' := w5) (fun x _ hx => hb5.block x hx)
      rw [layB_all] at hO
      have HO := hid hO
      have Hb5 := hid hb5
      have Hg := hid hg
      have H5 := hid h5
      have q0 := h5.blk.cell 0
      have f0 := h5.blk.frozen 0
      have hb0 : Rfb (w5.setCell ⟨r, 0, none⟩ (.slice (some ⟨g, 0, none⟩) nb cp)) r (.slice (some ⟨g, 0, none⟩) nb cp) pv (burnO fu false) (burnF fu) := by unfold Rfb; simpa using h5.blk.set 0 (.slice (some ⟨g, 0, none⟩) nb cp)
      have q1 := hb0.cell 1
      have f1 := hb0.frozen 1
      simp only [List.getElem?_toArray, List.getElem?_cons_succ, List.getElem?_cons_zero] at q0 q1
      have Hb0 := hid hb0
      clear hO hb5 hg h5 hb0 HL
      go_wp2
      go_ret
      have hw3 : w.heap.size ≤ w3.heap.size := U3.out.size
      have hw4 := Hb4.out.size
      have hg4 := Hg.out
      have hr5 := H5.out.blk.lt
      have hr3 := H3.out.blk.lt
      have hgr : g ≠ r := by omega
      refine ⟨rfl, ⟨.slice (some ⟨g, 0, none⟩) nb cp, .slice none 0 0, ?_⟩, ((((U3.out.trans (But.of_below Hb4.out)).trans (But.of_below Hb5.out)).setCell (p := ⟨r, 0, none⟩) H3.out.xr _).setCell (p := ⟨r, 1, none⟩) H3.out.xr _)⟩
      refine ⟨?_, owns_setCell (owns_setCell HO.out (p := ⟨r, 0, none⟩) (fun e => by simp [Value.ownBlock] at e; exact hgr e) _) (p := ⟨r, 1, none⟩) (fun e => by simp [Value.ownBlock] at e; exact hgr e) _, ⟨rfl, .inl ⟨rfl, rfl⟩⟩, ?_, H3.out.lo, H3.out.hi, (fun q hq => by cases hq), .inl H3.out.xr, (fun x e => by cases e; exact .inr (by show w.heap.size ≤ g; omega)), (fun x e => by cases e), H3.out.fus⟩
      · unfold Rfb; simpa using Hb0.out.set 1 (.slice none 0 0)
      · rw [← layB_all]
        exact length_layB H3.out.len H3.out.dat _ _ (Nat.le_refl _)
    · have hz24 : burnC fu = 24 := by unfold burnC at hz ⊢; split at hz <;> simp_all
      simp only [hz24]
      clear h3
      go_wp2
      go_ret
      exact ⟨rfl, Rk.mono (X := X) ⟨_, _, H3.out⟩ (fun x h => .inl h), U3.out⟩
  · have e1 : flushC true fu = 24 := rfl
    have e2 : afterF true fu = fu := rfl
    have e3 : afterO true fu = true := rfl
    rw [e1, e2, e3]
    clear e1 e2 e3
    go_enter Try.func78, Try.ntmps78
    go_wp2
    go_ret
    exact ⟨rfl, Rk.mono (X := X) ⟨_, _, H.out⟩ (fun x h => .inl h), But.refl _ _⟩

set_option maxRecDepth 100000 in
theorem zerosS_any (w : World) : Calls Try.prog 38 #[] w fun e w' => e = .returned (.string (strOfNums (zeros 512))) ∧ Below w.heap.size w w' := by
  have hmk : (Instr.makeSlice 34 (.int .i64 512) (.int .i64 512)).run Try.prog w = .ok (.slice (some ⟨w.heap.size, 0, none⟩) 512 512) (w.alloc (.cells ((zeros 512).map (Value.int .u8)).toArray 5)) := make_u8 512 (by omega) w
  have hB : Blk .u8 5 (w.alloc (.cells ((zeros 512).map (Value.int .u8)).toArray 5)) w.heap.size (zeros 512) := Blk.new w _
  have hlt := hB.lt
  have hcv := conv_str (Rd.of_blk hB (isB_zeros 512) hlt) 512
  have hbl : Below w.heap.size w (w.alloc (.cells ((zeros 512).map (Value.int .u8)).toArray 5)) := (Below.refl _ _).alloc (Nat.le_refl _) _
  rw [length_zeros] at hcv
  generalize w.alloc (.cells ((zeros 512).map (Value.int .u8)).toArray 5) = w1 at *
  generalize hS : strOfNums (zeros 512) = S at *
  clear hB hlt
  go_enter Try.func38, Try.ntmps38
  go_wp2
  go_ret
  exact ⟨rfl, hbl⟩

theorem lcs_zeros (nb : Nat) : lcs (zeros (512 * nb)) nb = List.replicate nb (.string (strOfNums (zeros 512))) := by
  apply List.ext_getElem?
  intro i
  by_cases hi : i < nb
  · rw [lcs_get hi, List.getElem?_replicate, if_pos hi]
    have e : blkI (zeros (512 * nb)) i = zeros 512 := by
      unfold blkI zeros
      rw [List.drop_replicate, List.take_replicate]
      congr 1
      omega
    rw [e]
  · rw [List.getElem?_eq_none (by simp [lcs]; omega), List.getElem?_eq_none (by simp; omega)]

theorem refNew_bad (x : Int) (w : World) (hx : x < 1 ∨ 524288 < x) : Calls Try.prog 20 #[.int .i64 x] w fun e w' => e = .returned (.tuple #[.pointer none, .int .i64 20]) ∧ w' = w := by
  go_enter Try.func20, Try.ntmps20
  by_cases h1 : x < 1
  · go_wp2
    go_ret2
    exact ⟨rfl, rfl⟩
  · have h2 : 524288 < x := by omega
    go_wp2
    go_ret2
    exact ⟨rfl, rfl⟩
set_option maxRecDepth 100000 in
set_option maxHeartbeats 1000000 in
theorem refNew_ok (nb : Nat) (w : World) (lo : 1 ≤ nb) (hi : nb ≤ 524288) : Calls Try.prog 20 #[.int .i64 (nb : Int)] w fun e w' => ∃ r, e = .returned (.tuple #[.pointer (some ⟨r, 0, none⟩), .int .i64 0]) ∧ w.heap.size ≤ r ∧ Rk (fun x => w.heap.size ≤ x) w' r (zeros (512 * nb)) [] (-1) false nb ∧ Below w.heap.size w w' := by
  obtain ⟨wr0, hwr⟩ : ∃ wr0, wr0 = w.alloc (.cells #[.slice none 0 0, .slice none 0 0, .bool false, .int .i64 (-1)] 87) := ⟨_, rfl⟩
  have b0 : Below w.heap.size w wr0 := by rw [hwr]; exact (Below.refl _ _).alloc (Nat.le_refl _) _
  have hb0 : Rfb wr0 w.heap.size (.slice none 0 0) (.slice none 0 0) false (-1) := by
    unfold Rfb
    rw [hwr]
    show (w.heap.push _)[w.heap.size]? = _
    simp
  have HZ := hid (zerosS_any wr0)
  have n1 : ¬ ((nb : Int) < 1) := by omega
  have n2 : ¬ ((524288 : Int) < (nb : Int)) := by omega
  obtain ⟨i9, hi9, hz9, hs9, hb9⟩ := info_parts info9
  have Hb0 := hid b0
  have HR0 := hid hb0
  clear b0 hb0
  go_enter Try.func20, Try.ntmps20
  go_wp2_with fail
  rw [← hwr]
  refine Calls.mono HZ.out ?_
  rintro e w1 ⟨rfl, hb1⟩
  have Hb1 := hid (Hb0.out.trans (hb1.mono Hb0.out.size))
  have HR1 := hid (HR0.out.of_block (hb1.block _ HR0.out.lt))
  clear hwr hb1 HZ Hb0 HR0
  have hlc := lcs_zeros nb
  generalize strOfNums (zeros 512) = S at *
  go_wp2_with fail
  go_loopw [6] (fun i wt => ∃ (k : Nat) (lv : Value), k ≤ nb ∧ i = .int .i64 (k : Int) ∧ Rfb wt w.heap.size lv (.slice none 0 0) false (-1) ∧ wt.ownsRow w.heap.size 9 1 lv k (List.replicate k (.string S)) ∧ Below w.heap.size w wt) (fun i _ => nb - (intOf i).toNat)
  case atStart => exact ⟨0, .slice none 0 0, Nat.zero_le _, rfl, HR1.out, World.ownsRow_nil _ _ _ _, Hb1.out⟩
  case round =>
    clear HR1 Hb1
    obtain ⟨k, lv, hk, rfl, hR, hO, hbt⟩ := hrel
    by_cases hkn : k < nb
    · have hkn' : (k : Int) < (nb : Int) := by omega
      obtain ⟨aO, cO, rfl, _⟩ := owns_slice hO
      have q0 := hR.cell 0
      simp only [List.getElem?_toArray, List.getElem?_cons_zero] at q0
      have hrl := hR.lt
      have hne : ∀ x, (Value.slice aO k cO).ownBlock = some x → x ≠ w.heap.size := fun x e e2 => by
        obtain ⟨c2, h2⟩ := row_kind hO e
        have hr : wr.heap[w.heap.size]? = _ := hR
        rw [e2, hr] at h2
        cases h2
      have HOa := hid (owns_below hO ((Below.refl _ _).alloc (Nat.le_refl _) (.cells #[.string S] 9)))
      have HR := hid hR
      have Hbt := hid hbt
      have Hne := hid hne
      have hws : w.heap.size ≤ wr.heap.size := hbt.size
      clear hO hbt hR hne
      go_wp2_with (at_builtin; refine wpList_append_lies _ rfl _ _ 84 (by rfl) w.heap.size 9 i9 (.string ⟨#[]⟩) 1 16 Try.underlying84 hi9 hz9 hs9 hb9 rfl (by decide) _ k (List.replicate k (.string S)) (by rfl) HOa.out ⟨wr.heap.size, 0, none⟩ 1 1 [.string S] (by rfl) (by rfl) (by exact newsV1 _ _ _ rfl) (by intro u hu; simp at hu; subst hu; rfl) (by decide) (by unfold maxLen; omega) (by omega) (by simp; omega) (wr.heap.size + 1) (by simp) ?_)
      intro g4 cap4 w6 ho4 hg4 hlie4 _
      have bb := HR.out.of_block (w' := w6) ((hg4.block w.heap.size (by simp; omega) (fun e => Hne.out _ e.symm rfl)).trans (Below.heap_alloc _ _ _ hrl))
      have c0' := bb.cell 0
      have f0' := bb.frozen 0
      simp only [List.getElem?_toArray, List.getElem?_cons_zero] at c0'
      have hg4n : g4 ≠ w.heap.size := fun e => by
        rcases hlie4 with q | q
        · exact Hne.out g4 q e
        · omega
      have HO4 := hid (owns_setCell ho4 (p := ⟨w.heap.size, 0, none⟩) (fun e => by simp [Value.ownBlock] at e; exact hg4n e) (.slice (some ⟨g4, 0, none⟩) (k + 1) cap4))
      have HB4 := hid (((Hbt.out.alloc hws (.cells #[.string S] 9)).grown hg4 (by simp; omega) (fun x e => (World.ownsRow.lt HOa.out x e).1)).setCell (p := ⟨w.heap.size, 0, none⟩) (Nat.le_refl _) (.slice (some ⟨g4, 0, none⟩) (k + 1) cap4))
      have Hbb := hid bb
      clear ho4 hg4 hlie4 bb q0
      go_wp2_with fail
      go_roundw
      case rel =>
        refine ⟨k + 1, .slice (some ⟨g4, 0, none⟩) (k + 1) cap4, by omega, by go_num, ?_, ?_, HB4.out⟩
        · unfold Rfb; simpa using Hbb.out.set 0 (.slice (some ⟨g4, 0, none⟩) (k + 1) cap4)
        · rw [List.replicate_succ']; exact HO4.out
      case measure => simp [intOf]; omega
    · obtain rfl : k = nb := by omega
      have HO := hid hO
      have HR := hid hR
      have Hbt := hid hbt
      clear hO hR hbt
      go_wp2
      go_ret2
      have ho := HO.out
      rw [← hlc] at ho
      have ho0 : wr.ownsRow 0 9 1 lv k (lcs (zeros (512 * k)) k) := ⟨ho.1, ho.2.imp id (fun ⟨g, cap, cur, h1, h2, h3⟩ => ⟨g, cap, cur, h1, Nat.zero_le _, h3⟩)⟩
      exact ⟨w.heap.size, rfl, Nat.le_refl _, ⟨lv, .slice none 0 0, HR.out, ho0, ⟨rfl, .inl ⟨rfl, rfl⟩⟩, length_zeros _, lo, hi, (fun q hq => by cases hq), Nat.le_refl _, (fun x e => (World.ownsRow.lt ho x e).1), (fun x e => by cases e), by omega⟩, Hbt.out⟩

end Go.Proofs.Ytfadnmdmohabmaa

/-
  The document's disk: Open.
-/
namespace Go.Proofs.Ytfadnmdmohabmaa
open Go.RowKit

end Go.Proofs.Ytfadnmdmohabmaa
