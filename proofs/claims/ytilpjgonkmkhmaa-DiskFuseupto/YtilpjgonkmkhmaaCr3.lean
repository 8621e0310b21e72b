/-
  DiskFuse: the law.
-/
import Derived.Test.YtilpjgonkmkhmaaCr2
namespace Go.Proofs.Ytilpjgonkmkhmaa
open Go.RowKit

/-- where the first disk may lie -/
def XF (S0 S1 S2 x : Nat) : Prop := (S0 ≤ x ∧ x < S1) ∨ S2 ≤ x

set_option maxRecDepth 100000 in
set_option maxHeartbeats 4000000 in
theorem fuse_law {w : World} (bl fu : Int) {a : Option Addr} {n c : Nat} {L : List JobD} (hJ : JobsIn w.heap.size w a n L) (hnil : a = none → c = 0) (hcap : n ≤ c) (hn : n ≤ 1048576) :
    Calls Try.prog 3 #[.int .i64 bl, .slice a n c, .int .i64 fu] w fun e w' => e = .returned (.bool true) ∧ Below w.heap.size w w' := by
  have HS := hid (size_any bl w)
  have lo := sizeN_lo bl
  have hi := sizeN_hi bl
  generalize sizeN bl = nb at *
  have ef := into_eq (n + 2) fu
  have hF := into_lt fu (m := n + 2) (by omega)
  generalize into (n + 2) fu = F at *
  have ef2 : (bits BinOp.and IntKind.i64 fu 4611686018427387903).tmod ((n : Int) + 2) = (F : Int) := by rw [← ef]; rfl
  clear ef
  have hnc : (n : Int) ≤ (c : Int) := by omega
  have HW := hid (worked_any (w := w) nb lo hi (a := none) (n := 0) (c := 0) (L := []) ⟨rfl, .inl rfl⟩ (by omega))
  have HJ := hid hJ
  have hlen := hJ.len
  clear hJ
  obtain ⟨m, hm⟩ : ∃ m : Nat, m = min F n := ⟨_, rfl⟩
  have hcase : (m = F ∧ (F : Int) ≤ (n : Int)) ∨ (m = n ∧ ¬ (F : Int) ≤ (n : Int)) := by omega
  go_enter Try.func3, Try.ntmps3
  go_wp2_with fail
  refine Calls.mono HS.out ?_
  rintro e w0 ⟨rfl, hw0⟩
  rw [hw0]
  clear HS hw0
  go_wp2_with fail
  refine Calls.mono HW.out ?_
  rintro e w1 ⟨p, rfl, hp, hD1, hb1⟩
  have H1 := hid (And.intro hD1 hb1)
  have HW2 := hid (worked_any (w := w1) nb lo hi (a := a) (n := m) (c := c) (((HJ.out.below hb1).mono hb1.size).take (m := m) (by omega)) (by omega))
  have hs1 := hb1.size
  clear HW hD1 hb1
  have hm1 : m ≤ n := by omega
  have hm2 : L.take m = L.take (min n F) := by rw [hm, Nat.min_comm]
  have Hm := hid (And.intro hm1 hm2)
  clear hm hm1 hm2
  rcases hcase with ⟨hmF, hc⟩ | ⟨hmF, hc⟩ <;> rw [hmF] at HW2 Hm <;> clear hmF
  all_goals
    clear m
    go_wp2_with fail
    refine Calls.mono HW2.out ?_
    rintro e w2 ⟨q, rfl, hq, hD2, hb2⟩
    have hD1' := (H1.out.1.cut.below hb2).mono (X' := XF w.heap.size w1.heap.size w2.heap.size) (fun x hx => .inl hx)
    have HFu := hid (Fuse_any hD1' (F : Int) (by omega))
    have H2 := hid (And.intro hD2.cut hb2)
    have hs2 := hb2.size
    clear HW2 hD2 hb2 hD1'
    go_wp2_with fail
    refine Calls.mono HFu.out ?_
    rintro e w3 ⟨rfl, hD3, hb3⟩
    have hz : fuseR false (F : Int) = 0 := by unfold fuseR; rw [if_neg (by simp), if_neg (by omega)]
    rw [hz, if_pos rfl] at hD3
    have H3 := hid (And.intro hD3 hb3)
    clear HFu hD3 hb3
    simp only [hz]
    go_wp2_with fail
    have hst0 : Dk (XF w.heap.size w1.heap.size w2.heap.size) w3 p (stS nb L F 0).1 (stS nb L F 0).2 (fuS F 0) (offS F 0) nb := by
      have e1 : stS nb L F 0 = jobsZ nb [] := by unfold stS; rw [Nat.zero_min]; rfl
      rw [e1]
      exact H3.out.1
    have H4 := hid (And.intro hst0 (And.intro H3.out.2 H2.out.2.size))
    clear hst0 H3
    have HP : Hid (∀ wt, But (XF w.heap.size w1.heap.size w2.heap.size) w2 wt → Below w.heap.size w wt) := fun wt hb =>
      (H1.out.2.trans (H2.out.2.mono hs1)).trans (hb.below (by omega) (fun x h1 h2 => by unfold XF at h2; omega))
    go_loopw [12, 13] (fun ev i wt => ∃ k : Nat, ∃ cv : Int, k ≤ n ∧ ev = .int .i64 cv ∧ i = .int .i64 (k : Int) ∧ Dk (XF w.heap.size w1.heap.size w2.heap.size) wt p (stS nb L F k).1 (stS nb L F k).2 (fuS F k) (offS F k) nb ∧ But (XF w.heap.size w1.heap.size w2.heap.size) w2 wt) (fun _ i _ => n - (intOf i).toNat)
    case atStart => exact ⟨0, 0, Nat.zero_le _, rfl, rfl, H4.out.1, H4.out.2.1⟩
    case round =>
      clear H4
      obtain ⟨k, cv, hk, rfl, rfl, hD, hbt⟩ := hrel
      by_cases hkn : k < n
      · have hJ := HJ.out.below (HP.out wr hbt)
        obtain ⟨b, o, rfl, hbb, hc'⟩ := hJ.cel.resolve_left (by omega)
        have hkL : k < L.length := by omega
        have hdk : L[k]? = some L[k] := List.getElem?_eq_getElem hkL
        obtain ⟨q0, q1, q2⟩ := hc' k _ hdk
        have hXt : ∀ x, wr.heap.size ≤ x → XF w.heap.size w1.heap.size w2.heap.size x := fun x hx => .inr (Nat.le_trans hbt.size hx)
        have HF := hid (fun hf => job_flushF hD (by omega) hdk hf hXt)
        have HBl := hid (Block_any L[k].fi wr.drew)
        have HWr := hid (fun (w1 : World) (g : Nat) hf hg hB hb => job_writeF (w1 := w1) (g := g) hD (by omega) hdk hf hXt (by omega) hg hB hb)
        have Hbt := hid hbt
        have hsz := hbt.size
        have hkn' : (k : Int) < (n : Int) := by omega
        have ei := into_eq nb L[k].at_
        have hz : ¬ (nb : Int) = 0 := by omega
        have hz' : ¬ nb = 0 := by omega
        have hpl := into_lt L[k].at_ (m := nb) (by omega)
        have ew : IntKind.i64.wrap (into nb L[k].at_ : Int) = (into nb L[k].at_ : Int) := by rw [IntKind.wrap_i64]; omega
        have hblt : b < wr.heap.size := by omega
        generalize L[k] = d at *
        clear hJ hc' hdk hD hbt hkL hc
        cases hfl : d.fl
        · rw [hfl] at q2
          generalize into nb d.at_ = pl at *
          generalize blkZ d.fi = bz at *
          generalize hs' : stS nb L F (k + 1) = s' at *
          have hbx : ¬ XF w.heap.size w1.heap.size w2.heap.size b := by unfold XF; omega
          clear HF
          go_wp2_with fail
          go_region_held3 (fun w' => w'.cell? ⟨b, o + k * 3, none⟩ = some (.int .i64 d.at_) ∧ w'.cell? ⟨b, o + k * 3 + 1, none⟩ = some (.int .i64 d.fi)) (first | exact ⟨by assumption, by assumption⟩ | go_keep)
            ((first
              | (go_at_call 10; refine Calls.mono HBl.out ?_; rintro e w1 ⟨g, rfl, hg, hB1, hb1⟩
                 have Hb1 := hid (undrew hb1)
                 have HA3 := hid (HWr.out w1 g hfl hg hB1 Hb1.out)
                 have j0 := (Hb1.out.cell (p := ⟨b, o + k * 3, none⟩) hblt).trans q0
                 have j1 := (Hb1.out.cell (p := ⟨b, o + k * 3 + 1, none⟩) hblt).trans q1
                 clear hg hB1 hb1)
              | (go_at_call 9; refine Calls.mono HA3.out ?_; rintro e w4 ⟨rfl, hD2, hb2⟩
                 have H5 := hid (And.intro hD2 hb2)
                 have HO := hid (On_any (w := w4) hD2)
                 have i0 := (hb2.cell (p := ⟨b, o + k * 3, none⟩) hblt hbx).trans q0
                 have i1 := (hb2.cell (p := ⟨b, o + k * 3 + 1, none⟩) hblt hbx).trans q1
                 clear hD2 hb2)))
          clear q0 q1 q2 i0 i1 j0 j1 HA3 HWr HBl
          by_cases hkF : (k : Int) < (F : Int)
          · have e1 : codS F k = 0 := if_pos (by omega)
            have e2 : offS F (k + 1) = false := decide_eq_false (by omega)
            simp only [e1]
            rw [e2] at HO
            go_wp2_with fail
            refine Calls.mono HO.out ?_
            rintro e w5 ⟨rfl, hb5⟩
            have H6 := hid (And.intro (H5.out.1.below hb5) (H5.out.2.trans (But.of_below hb5)))
            clear hb5 H5 HO
            go_wp2_with fail
            go_roundw
            case rel => exact ⟨k + 1, 0, by omega, rfl, by go_num, (by rw [hs']; exact H6.out.1), Hbt.out.trans H6.out.2⟩
            case measure => simp [intOf]; omega
          · have e1 : codS F k = 24 := if_neg (by omega)
            have e2 : offS F (k + 1) = true := decide_eq_true (by omega)
            simp only [e1]
            rw [e2] at HO
            go_wp2_with fail
            refine Calls.mono HO.out ?_
            rintro e w5 ⟨rfl, hb5⟩
            have H6 := hid (And.intro (H5.out.1.below hb5) (H5.out.2.trans (But.of_below hb5)))
            clear hb5 H5 HO
            go_wp2_with fail
            go_roundw
            case rel => exact ⟨k + 1, 24, by omega, rfl, by go_num, (by rw [hs']; exact H6.out.1), Hbt.out.trans H6.out.2⟩
            case measure => simp [intOf]; omega
        · rw [hfl] at q2
          have HF2 := hid (HF.out hfl)
          generalize hs' : stS nb L F (k + 1) = s' at *
          clear HF HWr HBl ei
          go_wp2_with fail
          refine Calls.mono HF2.out ?_
          rintro e w4 ⟨rfl, hD2, hb2⟩
          have H5 := hid (And.intro hD2 hb2)
          have HO := hid (On_any (w := w4) hD2)
          clear hD2 hb2 HF2
          by_cases hkF : (k : Int) < (F : Int)
          · have e1 : codS F k = 0 := if_pos (by omega)
            have e2 : offS F (k + 1) = false := decide_eq_false (by omega)
            simp only [e1]
            rw [e2] at HO
            go_wp2_with fail
            refine Calls.mono HO.out ?_
            rintro e w5 ⟨rfl, hb5⟩
            have H6 := hid (And.intro (H5.out.1.below hb5) (H5.out.2.trans (But.of_below hb5)))
            clear hb5 H5 HO
            go_wp2_with fail
            go_roundw
            case rel => exact ⟨k + 1, 0, by omega, rfl, by go_num, (by rw [hs']; exact H6.out.1), Hbt.out.trans H6.out.2⟩
            case measure => simp [intOf]; omega
          · have e1 : codS F k = 24 := if_neg (by omega)
            have e2 : offS F (k + 1) = true := decide_eq_true (by omega)
            simp only [e1]
            rw [e2] at HO
            go_wp2_with fail
            refine Calls.mono HO.out ?_
            rintro e w5 ⟨rfl, hb5⟩
            have H6 := hid (And.intro (H5.out.1.below hb5) (H5.out.2.trans (But.of_below hb5)))
            clear hb5 H5 HO
            go_wp2_with fail
            go_roundw
            case rel => exact ⟨k + 1, 24, by omega, rfl, by go_num, (by rw [hs']; exact H6.out.1), Hbt.out.trans H6.out.2⟩
            case measure => simp [intOf]; omega
      · obtain rfl : k = n := by omega
        have hDc := (H2.out.1.keep (w' := wr) (fun x hx hl => hbt.block x hl (fun h => by unfold XF at h; omega)))
        rw [Hm.out.2] at hDc
        have hf := hD.facts
        have hlz : (stS nb L F k).2.length ≤ 1048576 := by have := stS_len (nb := nb) (L := L) (F := F) (k := k); omega
        have e0 : jobsZ nb (L.take (min k F)) = stS nb L F k := rfl
        rw [e0] at hDc
        generalize stS nb L F k = st at *
        have HI1 := hid (Image_any hD)
        have Hbt := hid (HP.out wr hbt)
        have HD := hid (And.intro hD hDc)
        have Hf := hid hf
        clear hD hbt hDc hkn hf e0 H2 H1 HP HJ Hm
        have hkk : ¬ (k : Int) < (k : Int) := by omega
        go_wp2_with fail
        refine Calls.mono HI1.out ?_
        rintro e w5 ⟨g5, c5, rfl, hg5, hO5, hb5⟩
        have HI2 := hid (Image_any (HD.out.2.below hb5))
        have H5 := hid (And.intro hO5 hb5)
        clear HI1 hO5 hb5
        go_wp2_with fail
        refine Calls.mono HI2.out ?_
        rintro e w6 ⟨g6, c6, rfl, hg6, hO6, hb6⟩
        have hb56 := H5.out.2.trans (hb6.mono H5.out.2.size)
        have HP1 := hid (Pending_any (HD.out.1.below hb56) (by omega))
        have H6 := hid (And.intro (H5.out.1.keep (hb6.block g5 H5.out.1.lt)) (And.intro hO6 hb56))
        clear HI2 hO6 hb6 H5 hb56
        go_wp2_with fail
        refine Calls.mono HP1.out ?_
        rintro e w7 ⟨g7, rfl, hg7, hO7, hb7⟩
        have hb57 := H6.out.2.2.trans (hb7.mono H6.out.2.2.size)
        have HP2 := hid (Pending_any (HD.out.2.below hb57) (by omega))
        have H7 := hid (And.intro (H6.out.1.keep (hb7.block g5 H6.out.1.lt)) (And.intro (H6.out.2.1.keep (hb7.block g6 H6.out.2.1.lt)) (And.intro hO7 hb57)))
        clear HP1 hO7 hb7 H6 hb57
        go_wp2_with fail
        refine Calls.mono HP2.out ?_
        rintro e w8 ⟨g8, rfl, hg8, hO8, hb8⟩
        have hb58 := H7.out.2.2.2.trans (hb8.mono H7.out.2.2.2.size)
        have h8 := And.intro (H7.out.1.keep (hb8.block g5 H7.out.1.lt)) (And.intro (H7.out.2.1.keep (hb8.block g6 H7.out.2.1.lt)) (And.intro (H7.out.2.2.1.of_block (hb8.block g7 H7.out.2.2.1.lt)) hO8))
        have HSB := hid (SameBytes_eq w8.heap.size _ _ _ c5 _ c6 _ w8 (h8.1.rd Hf.out.1) (h8.2.1.rd Hf.out.1))
        have ri1 := RdI.of_blk h8.2.2.1 h8.2.2.1.lt
        have ri2 := RdI.of_blk h8.2.2.2 h8.2.2.2.lt
        rw [List.length_map] at ri1 ri2
        have HSI := hid (SameInts_eq w8.heap.size _ _ _ st.2.length st.2.length _ w8 (Nat.le_refl _) (by omega) ri1 ri2)
        have H8 := hid hb58
        clear HP2 hO8 hb8 H7 hb58 h8 ri1 ri2
        go_wp2_with fail
        refine Calls.mono HSB.out ?_
        rintro e w9 ⟨rfl, hw9⟩
        rw [hw9]
        clear HSB hw9
        go_wp2_with fail
        refine Calls.mono HSI.out ?_
        rintro e w10 ⟨rfl, hb10⟩
        have hb11 := H8.out.trans (hb10.mono H8.out.size)
        have HR := hid (Read_any (HD.out.1.below hb11) 0 (by omega))
        have H10 := hid hb11
        clear hb10 hb11 HSI H8
        go_wp2_with fail
        refine Calls.mono HR.out ?_
        rintro e w11 ⟨al, c11, rfl, _, hb12⟩
        have hb13 := H10.out.trans (hb12.mono H10.out.size)
        have HFu2 := hid (Fuse_any (HD.out.1.below hb13) (-1) (by omega))
        have H11 := hid hb13
        clear hb12 hb13 HR H10
        go_wp2_with fail
        refine Calls.mono HFu2.out ?_
        rintro e w12 ⟨rfl, hD12, hb12⟩
        have HO := hid (On_any hD12)
        have hb13 := Hbt.out.trans (H11.out.mono Hbt.out.size)
        have H12 := hid (hb13.trans (hb12.below hb13.size (fun x h1 h2 => by unfold XF at h2; omega)))
        clear hb12 hb13 HFu2 H11 hD12 HD Hf Hbt
        by_cases hkF : (k : Int) ≤ (F : Int)
        · have e2 : offS F k = false := decide_eq_false (by omega)
          have e3 : (readR st.1 st.2 (offS F k) nb 0).1 = 0 := by
            unfold readR
            rw [e2, if_neg (by simp), if_neg (by omega)]
          have e4 : fuseR (offS F k) (-1) = 0 := by
            rw [e2]
            rfl
          rw [e2] at HO
          simp only [e3, e4]
          go_wp2_with fail
          refine Calls.mono HO.out ?_
          rintro e w14 ⟨rfl, hb14⟩
          have H14 := hid (H12.out.trans (hb14.mono H12.out.size))
          clear hb14 HO
          go_wp2
          go_ret
          exact ⟨rfl, H14.out⟩
        · have e2 : offS F k = true := decide_eq_true (by omega)
          have e3 : (readR st.1 st.2 (offS F k) nb 0).1 = 24 := by
            unfold readR
            rw [e2, if_pos rfl]
          have e4 : fuseR (offS F k) (-1) = 24 := by
            rw [e2]
            rfl
          rw [e2] at HO
          simp only [e3, e4]
          go_wp2_with fail
          refine Calls.mono HO.out ?_
          rintro e w14 ⟨rfl, hb14⟩
          have H14 := hid (H12.out.trans (hb14.mono H12.out.size))
          clear hb14 HO
          go_wp2
          go_ret
          exact ⟨rfl, H14.out⟩

end Go.Proofs.Ytilpjgonkmkhmaa
