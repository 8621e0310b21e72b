/-
  worked: a disk on which jobs were done.
-/
import Derived.Test.YtilpjgonkmkhmaaCr0
import Derived.Deep.RegionHeld3
namespace Go.Proofs.Ytilpjgonkmkhmaa
open Go.RowKit

theorem undrew {w w1 : World} (h : Below w.drew.heap.size w.drew w1) : Below w.heap.size w w1 := ⟨h.os, h.tape, h.output, h.size, h.block⟩
theorem job_flush {X : Nat → Prop} {w : World} {p nb : Nat} {s : List Int × List (Nat × List Int)} (h : Dk X w p s.1 s.2 (-1) false nb) (hl : s.2.length ≤ 1073741823) {d : JobD} (hd : d.fl = true) (hX : ∀ x, w.heap.size ≤ x → X x) :
    Calls Try.prog 8 #[.pointer (some ⟨p, 0, none⟩)] w fun e w' => e = .returned (.int .i64 0) ∧ Dk X w' p (jstep nb s d).1 (jstep nb s d).2 (-1) false nb ∧ But X w w' := by
  refine (Flush_any h (by omega)).mono ?_
  rintro e w' ⟨rfl, h1, h2⟩
  have e1 : jstep nb s d = (flushZ s.1 s.2, []) := if_pos hd
  rw [e1]
  exact ⟨rfl, h1.mono (fun x hx => hx.elim id (hX x)), h2⟩
theorem job_write {X : Nat → Prop} {w w1 : World} {p nb : Nat} {s : List Int × List (Nat × List Int)} (h : Dk X w p s.1 s.2 (-1) false nb) (hl : s.2.length ≤ 1073741823) {d : JobD} (hd : d.fl = false) (hX : ∀ x, w.heap.size ≤ x → X x) (h0 : 0 < nb) {g : Nat} (hg : w.heap.size ≤ g) (hB : Blk .u8 5 w1 g (blkZ d.fi)) (hb : Below w.heap.size w w1) :
    Calls Try.prog 9 #[.pointer (some ⟨p, 0, none⟩), .int .i64 (into nb d.at_ : Int), .slice (some ⟨g, 0, none⟩) 512 512] w1 fun e w' => e = .returned (.int .i64 0) ∧ Dk X w' p (jstep nb s d).1 (jstep nb s d).2 (-1) false nb ∧ But X w w' := by
  have hi := into_lt d.at_ h0
  have hR : RdN (fun x => X x ∧ x < w.heap.size) w1 (some ⟨g, 0, none⟩) 512 (blkZ d.fi) := by
    have := RdN.of_blk (X := fun x => X x ∧ x < w.heap.size) hB (isB_blkZ _) (fun q => by omega)
    rw [length_blkZ] at this
    exact this
  refine (Write_any (h.cut.below hb) hl (into nb d.at_ : Int) (some ⟨g, 0, none⟩) 512 512 _ hR).mono ?_
  have c0 : ¬ ((into nb d.at_ : Int) < 0 ∨ (nb : Int) ≤ (into nb d.at_ : Int)) := by omega
  have c1 : writeC false (-1) nb (into nb d.at_ : Int) 512 = 0 := by
    unfold writeC
    rw [if_neg c0]
    rfl
  have c2 : writeF false (-1) nb (into nb d.at_ : Int) 512 = -1 := by
    unfold writeF
    rw [if_pos ⟨rfl, c0, rfl⟩]
    rfl
  have c3 : writeO false (-1) nb (into nb d.at_ : Int) 512 = false := by
    unfold writeO
    rw [if_pos ⟨rfl, c0, rfl⟩]
    rfl
  rintro e w' ⟨rfl, h1, h2⟩
  rw [c1, c2, c3] at h1
  rw [c1]
  have e1 : jstep nb s d = (s.1, s.2 ++ [(into nb d.at_, blkZ d.fi)]) := by unfold jstep; rw [hd]; rfl
  rw [e1]
  refine ⟨rfl, h1.mono (fun x hx => hx.elim (fun q => q.1) (fun q => hX x (Nat.le_trans hb.size q))), (But.of_below hb).trans (h2.mono (fun k _ q => q.1))⟩

set_option maxRecDepth 100000 in
set_option maxHeartbeats 4000000 in
theorem worked_any {w : World} (nb : Nat) (lo : 1 ≤ nb) (hi : nb ≤ 9) {a : Option Addr} {n c : Nat} {L : List JobD} (hJ : JobsIn w.heap.size w a n L) (hn : n ≤ 1048576) :
    Calls Try.prog 6 #[.int .i64 (nb : Int), .slice a n c] w fun e w' => ∃ p, e = .returned (.tuple #[.pointer (some ⟨p, 0, none⟩), .bool true]) ∧ w.heap.size ≤ p ∧ Dk (fun x => w.heap.size ≤ x) w' p (jobsZ nb L).1 (jobsZ nb L).2 (-1) false nb ∧ Below w.heap.size w w' := by
  have HN := hid (New_ok nb w lo (by omega))
  have HJ := hid hJ
  have hlen := hJ.len
  clear hJ
  go_enter Try.func6, Try.ntmps6
  go_wp2_with fail
  refine Calls.mono HN.out ?_
  rintro e w1 ⟨p, rfl, hp, hD, hb⟩
  have HD := hid hD
  have Hb := hid hb
  clear hD hb HN
  go_wp2_with fail
  go_loopw [7, 8] (fun ev i wt => ∃ k : Nat, k ≤ n ∧ ev = .int .i64 0 ∧ i = .int .i64 (k : Int) ∧ Dk (fun x => w.heap.size ≤ x) wt p (jobsZ nb (L.take k)).1 (jobsZ nb (L.take k)).2 (-1) false nb ∧ Below w.heap.size w wt) (fun _ i _ => n - (intOf i).toNat)
  case atStart => exact ⟨0, Nat.zero_le _, rfl, rfl, HD.out, Hb.out⟩
  case round =>
    clear HD Hb
    obtain ⟨k, hk, rfl, rfl, hD, hbt⟩ := hrel
    by_cases hkn : k < n
    · have hJ := HJ.out.below hbt
      obtain ⟨b, o, rfl, hbb, hc⟩ := hJ.cel.resolve_left (by omega)
      have hkL : k < L.length := by omega
      have hdk : L[k]? = some L[k] := List.getElem?_eq_getElem hkL
      obtain ⟨q0, q1, q2⟩ := hc k _ hdk
      have hsn := jobsZ_snoc nb L k _ hdk
      have hlz : (jobsZ nb (L.take k)).2.length ≤ 1073741823 := by
        have := jobsZ_len nb (L.take k)
        rw [List.length_take] at this
        omega
      have HF := hid (@job_flush _ _ _ _ _ hD hlz L[k])
      have HBl := hid (Block_any L[k].fi wr.drew)
      have HWr : Hid (∀ (w1 : World) (g : Nat), L[k].fl = false → wr.heap.size ≤ g → Blk .u8 5 w1 g (blkZ L[k].fi) → Below wr.heap.size wr w1 → Calls Try.prog 9 #[.pointer (some ⟨p, 0, none⟩), .int .i64 (into nb L[k].at_ : Int), .slice (some ⟨g, 0, none⟩) 512 512] w1 fun e w' => e = .returned (.int .i64 0) ∧ Dk (fun x => w.heap.size ≤ x) w' p (jstep nb (jobsZ nb (L.take k)) L[k]).1 (jstep nb (jobsZ nb (L.take k)) L[k]).2 (-1) false nb ∧ But (fun x => w.heap.size ≤ x) wr w') :=
        fun w1 g hf hg hB hb => job_write hD hlz hf (fun x hx => Nat.le_trans hbt.size hx) (by omega) hg hB hb
      have Hbt := hid hbt
      have hsz := hbt.size
      have hkn' : (k : Int) < (n : Int) := by omega
      have ei := into_eq nb L[k].at_
      have hz : ¬ (nb : Int) = 0 := by omega
      have hz' : ¬ nb = 0 := by omega
      have hpl := into_lt L[k].at_ (m := nb) (by omega)
      have ew : IntKind.i64.wrap (into nb L[k].at_ : Int) = (into nb L[k].at_ : Int) := by rw [IntKind.wrap_i64]; omega
      have hblt : b < wr.heap.size := by omega
      rw [← hsn] at HF HWr
      generalize L[k] = d at *
      clear hJ hc hdk hD hbt hsn hlz hkL
      cases hfl : d.fl
      · rw [hfl] at q2
        generalize into nb d.at_ = pl at *
        generalize blkZ d.fi = bz at *
        generalize hs' : jobsZ nb (L.take (k + 1)) = s' at *
        go_wp2_with fail
        go_region_held3 (fun w' => w'.cell? ⟨b, o + k * 3, none⟩ = some (.int .i64 d.at_) ∧ w'.cell? ⟨b, o + k * 3 + 1, none⟩ = some (.int .i64 d.fi)) (first | exact ⟨by assumption, by assumption⟩ | go_keep)
          ((first
            | (go_at_call 10; refine Calls.mono HBl.out ?_; rintro e w1 ⟨g, rfl, hg, hB1, hb1⟩
               have Hb1 := hid (undrew hb1)
               have HA3 := hid (HWr.out w1 g hfl hg hB1 Hb1.out)
               have j0 := (Hb1.out.cell (p := ⟨b, o + k * 3, none⟩) hblt).trans q0
               have j1 := (Hb1.out.cell (p := ⟨b, o + k * 3 + 1, none⟩) hblt).trans q1
               clear hg hB1 hb1)
            | (go_at_call 9; refine Calls.mono HA3.out ?_; rintro e w2 ⟨rfl, hD2, hb2⟩
               have H2 := hid (And.intro hD2 hb2)
               have i0 := (hb2.cell (p := ⟨b, o + k * 3, none⟩) hblt (by show ¬ w.heap.size ≤ b; omega)).trans q0
               have i1 := (hb2.cell (p := ⟨b, o + k * 3 + 1, none⟩) hblt (by show ¬ w.heap.size ≤ b; omega)).trans q1
               clear hD2 hb2)))
        clear q0 q1 q2 i0 i1 j0 j1 HA3 HWr HBl HF
        go_wp2_with fail
        go_roundw
        case rel => exact ⟨k + 1, by omega, rfl, by go_num, (by rw [hs']; exact H2.out.1), Hbt.out.trans (H2.out.2.below hsz (fun x h1 h2 => by omega))⟩
        case measure => simp [intOf]; omega
      · rw [hfl] at q2
        have HF2 := hid (HF.out hfl (fun x hx => Nat.le_trans hsz hx))
        generalize hs' : jobsZ nb (L.take (k + 1)) = s' at *
        clear HF HWr HBl ei
        go_wp2_with fail
        refine Calls.mono HF2.out ?_
        rintro e w2 ⟨rfl, hD2, hb2⟩
        have H2 := hid (And.intro hD2 hb2)
        clear hD2 hb2 HF2
        go_wp2_with fail
        go_roundw
        case rel => exact ⟨k + 1, by omega, rfl, by go_num, (by rw [hs']; exact H2.out.1), Hbt.out.trans (H2.out.2.below hsz (fun x h1 h2 => by omega))⟩
        case measure => simp [intOf]; omega
    · obtain rfl : k = n := by omega
      rw [List.take_of_length_le (by omega)] at hD
      have HD2 := hid hD
      have Hb2 := hid hbt
      clear hD hbt
      go_wp2
      go_ret2
      exact ⟨p, rfl, hp, HD2.out, Hb2.out⟩

end Go.Proofs.Ytilpjgonkmkhmaa
