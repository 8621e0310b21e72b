/-
  FieldUnstamps: one Unstamp held against the document's (function 5).
-/
import Derived.Test.YteaebdonnicbkabRUm
import Derived.Test.YteaebdonnicbkabStm
namespace Go.Proofs.Yteaebdonnicbkab
open Go.RowKit

theorem unst_len (zs : List Int) (hb : Pl.isB zs) : Pl.isB (unstR zs).2.1 ∧ (unstR zs).2.1.length ≤ zs.length := by
  unfold unstR
  split
  · exact ⟨Pl.isB_nil, Nat.zero_le _⟩
  · split
    · exact ⟨Pl.isB_nil, Nat.zero_le _⟩
    · split
      · exact ⟨Pl.isB_nil, Nat.zero_le _⟩
      · split
        · exact ⟨Pl.isB_nil, Nat.zero_le _⟩
        · exact ⟨Pl.isB_take (Pl.isB_drop hb _) _, by simp; omega⟩
theorem unst_size {zs : List Int} (h : zs.length ≠ 512) : unstR zs = ((0, 0), [], 12) := by unfold unstR; rw [if_pos h]
theorem unst_head {zs : List Int} (hz : zs.length = 512) (h : zs.getD 0 0 = 0 ∨ 497 < Pl.num ((zs.drop 1).take 2) ∨ 1099511627776 < Pl.num ((zs.drop 3).take 8)) : unstR zs = ((0, 0), [], 16) := by
  unfold unstR; rw [if_neg (by omega), if_pos h]
theorem unst_zero {zs : List Int} {L : Nat} (hz : zs.length = 512) (h : ¬ (zs.getD 0 0 = 0 ∨ 497 < Pl.num ((zs.drop 1).take 2) ∨ 1099511627776 < Pl.num ((zs.drop 3).take 8))) (hL : Pl.num ((zs.drop 1).take 2) = (L : Int)) (h0 : zeroB (zs.drop (15 + L)) = false) : unstR zs = ((0, 0), [], 16) := by
  unfold unstR
  rw [if_neg (by omega), if_neg h, hL, Int.toNat_natCast, if_pos h0]
theorem unst_sum {zs : List Int} {L : Nat} (hz : zs.length = 512) (h : ¬ (zs.getD 0 0 = 0 ∨ 497 < Pl.num ((zs.drop 1).take 2) ∨ 1099511627776 < Pl.num ((zs.drop 3).take 8))) (hL : Pl.num ((zs.drop 1).take 2) = (L : Int)) (h0 : zeroB (zs.drop (15 + L)) = true) (hs : Pl.num ((zs.drop 11).take 4) ≠ crc (splice zs 11 [0, 0, 0, 0])) : unstR zs = ((0, 0), [], 17) := by
  unfold unstR
  rw [if_neg (by omega), if_neg h, hL, Int.toNat_natCast, if_neg (by rw [h0]; decide), if_pos hs]
theorem unst_fine {zs : List Int} {L : Nat} (hz : zs.length = 512) (h : ¬ (zs.getD 0 0 = 0 ∨ 497 < Pl.num ((zs.drop 1).take 2) ∨ 1099511627776 < Pl.num ((zs.drop 3).take 8))) (hL : Pl.num ((zs.drop 1).take 2) = (L : Int)) (h0 : zeroB (zs.drop (15 + L)) = true) (hs : Pl.num ((zs.drop 11).take 4) = crc (splice zs 11 [0, 0, 0, 0])) :
    unstR zs = ((zs.getD 0 0, Pl.num ((zs.drop 3).take 8)), (zs.drop 15).take L, 0) := by
  unfold unstR
  rw [if_neg (by omega), if_neg h, hL, Int.toNat_natCast, if_neg (by rw [h0]; decide), if_neg (by rw [hs]; exact fun h => h rfl)]

theorem Unstamp_all (a : Option Addr) (n c : Nat) (zs : List Int) (w : World) (hcap : n ≤ c) (hR : Rd w.heap.size w a n zs) :
    Calls Try.prog 14 #[.slice a n c] w fun e w' => ∃ al, e = .returned (unstV (unstR zs) al (unstR zs).2.1.length (unstR zs).2.1.length) ∧
      ((al = none ∧ (unstR zs).2.1 = []) ∨ ∃ g, al = some ⟨g, 0, none⟩ ∧ w.heap.size ≤ g ∧ Blk .u8 5 w' g (unstR zs).2.1) ∧ Below w.heap.size w w' := by
  obtain ⟨hz, hzb, h3⟩ := hR
  by_cases hn : n = 512
  · subst hn
    obtain ⟨b, off, rfl, hb, hc⟩ := h3.resolve_left (by decide)
    by_cases hh : zs.getD 0 0 = 0 ∨ 497 < Pl.num ((zs.drop 1).take 2) ∨ 1099511627776 < Pl.num ((zs.drop 3).take 8)
    · rw [unst_head hz hh]
      refine (Unstamp_head b off c zs w hz hzb hcap hc hh).mono ?_
      rintro e w' ⟨he, rfl⟩
      exact ⟨none, he, .inl ⟨rfl, rfl⟩, Below.refl _ _⟩
    · have k0 := Pl.isB_getD hzb 0
      rw [← List.getD_eq_getElem?_getD] at k0
      obtain ⟨L, hL⟩ := Int.eq_ofNat_of_zero_le (Pl.num_nonneg (Pl.isB_take (Pl.isB_drop hzb 1) 2))
      by_cases h0 : zeroB (zs.drop (15 + L)) = false
      · rw [unst_zero hz hh hL h0]
        refine (Unstamp_rest b off c zs _ _ L w hz hzb hb hcap hc rfl (by omega) hL (by omega) rfl (by omega) (.inl h0)).mono ?_
        rintro e w' ⟨he, hb'⟩
        rw [if_pos h0] at he
        exact ⟨none, he, .inl ⟨rfl, rfl⟩, hb'⟩
      · have h0' : zeroB (zs.drop (15 + L)) = true := by simpa using h0
        by_cases hs : Pl.num ((zs.drop 11).take 4) = crc (splice zs 11 [0, 0, 0, 0])
        · rw [unst_fine hz hh hL h0' hs]
          refine (Unstamp_ok b off c zs _ _ L w hz hzb hb hcap hc rfl (by omega) hL (by omega) rfl (by omega) h0' hs).mono ?_
          rintro e w' ⟨g, he, hg, hB, hb'⟩
          have hlen : ((zs.drop 15).take L).length = L := by simp; omega
          exact ⟨some ⟨g, 0, none⟩, by rw [he]; unfold unstV; simp only [hlen], .inr ⟨g, rfl, hg, hB⟩, hb'⟩
        · rw [unst_sum hz hh hL h0' hs]
          refine (Unstamp_rest b off c zs _ _ L w hz hzb hb hcap hc rfl (by omega) hL (by omega) rfl (by omega) (.inr hs)).mono ?_
          rintro e w' ⟨he, hb'⟩
          rw [if_neg h0] at he
          exact ⟨none, he, .inl ⟨rfl, rfl⟩, hb'⟩
  · rw [unst_size (by omega)]
    refine (Unstamp_size a n c w hn).mono ?_
    rintro e w' ⟨he, rfl⟩
    exact ⟨none, he, .inl ⟨rfl, rfl⟩, Below.refl _ _⟩
theorem refUnstamp_any (a : Option Addr) (n c : Nat) (zs : List Int) (w : World) (hcap : n ≤ c) (hR : Rd w.heap.size w a n zs) :
    Calls Try.prog 16 #[.slice a n c] w fun e w' => ∃ a2 n2 c2, e = .returned (unstV (unstR zs) a2 n2 c2) ∧ Rd w'.heap.size w' a2 n2 (unstR zs).2.1 ∧ Below w.heap.size w w' := by
  obtain ⟨hz, hzb, h3⟩ := hR
  by_cases hn : n = 512
  · subst hn
    obtain ⟨b, off, rfl, hb, hc⟩ := h3.resolve_left (by decide)
    by_cases hh : zs.getD 0 0 = 0 ∨ 497 < Pl.num ((zs.drop 1).take 2) ∨ 1099511627776 < Pl.num ((zs.drop 3).take 8)
    · rw [unst_head hz hh]
      refine (refU_head b off c zs w hz hzb hcap hc hh).mono ?_
      rintro e w' ⟨he, rfl⟩
      exact ⟨none, 0, 0, he, ⟨rfl, Pl.isB_nil, .inl rfl⟩, Below.refl _ _⟩
    · have k0 := Pl.isB_getD hzb 0
      rw [← List.getD_eq_getElem?_getD] at k0
      have s0 := Pl.num_nonneg (Pl.isB_take (Pl.isB_drop hzb 3) 8)
      obtain ⟨L, hL⟩ := Int.eq_ofNat_of_zero_le (Pl.num_nonneg (Pl.isB_take (Pl.isB_drop hzb 1) 2))
      have hbody : Pl.isB ((zs.drop 15).take L) := Pl.isB_take (Pl.isB_drop hzb _) _
      have hlen : ((zs.drop 15).take L).length = L := by simp; omega
      have hback : zeroB (zs.drop (15 + L)) = true → Pl.num ((zs.drop 11).take 4) = crc (splice zs 11 [0, 0, 0, 0]) → stampZ (zs.getD 0 0) (Pl.num ((zs.drop 3).take 8)) ((zs.drop 15).take L) = zs := by
        intro h0 hs
        have := unstamp_back hzb ⟨hz, by omega, by omega, by omega, by rw [hL, Int.toNat_natCast]; exact h0, hs⟩
        rw [hL, Int.toNat_natCast] at this
        exact this
      have hforth : stampZ (zs.getD 0 0) (Pl.num ((zs.drop 3).take 8)) ((zs.drop 15).take L) = zs → zeroB (zs.drop (15 + L)) = true ∧ Pl.num ((zs.drop 11).take 4) = crc (splice zs 11 [0, 0, 0, 0]) := by
        intro he
        obtain ⟨_, _, _, _, f5, f6, _⟩ := stamp_facts (zs.getD 0 0) (Pl.num ((zs.drop 3).take 8)) ((zs.drop 15).take L) (by omega) (by omega) s0 (by omega) (by omega) hbody
        rw [he] at f5 f6
        rw [hlen] at f5
        exact ⟨f5, f6⟩
      exact refU_rest b off c zs _ _ L w (unstR zs) hz hzb hb hcap hc rfl (by omega) hL (by omega) rfl (by omega) (unst_zero hz hh hL)
        (fun h0 hne => unst_sum hz hh hL h0 (fun hs => hne (hback h0 hs))) (fun he => unst_fine hz hh hL (hforth he).1 (hforth he).2)
  · rw [unst_size (by omega)]
    refine (refU_size a n c w hn).mono ?_
    rintro e w' ⟨he, rfl⟩
    exact ⟨none, 0, 0, he, ⟨rfl, Pl.isB_nil, .inl rfl⟩, Below.refl _ _⟩

set_option maxRecDepth 100000 in
set_option maxHeartbeats 4000000 in
theorem unstamps_any (B : Nat) (Y : Nat → Prop) (w : World) (L b cnt tot nK : Nat) (a : Option Addr) (n c : Nat) (zs : List Int) (hB : B ≤ w.heap.size) (hnK : nK ≤ 67108000) (hc : cnt ≤ 8388000) (ht : tot ≤ 1073741000 - n) (hn : n ≤ 1048576) (hcap : n ≤ c)
    (h : Sta B Y w L b cnt tot nK) (hR : RdN Y w a n zs) :
    Calls Try.prog 5 #[.slice a n c, .pointer (some ⟨L, 0, none⟩), .pointer (some ⟨b, 0, none⟩)] w fun e w' => e = .returned (.bool true) ∧
      ∃ tot' nK', tot' ≤ tot + n ∧ nK' ≤ nK + 15 ∧ Sta B (fun x => Y x ∨ w.heap.size ≤ x) w' L b (cnt + 1) tot' nK' ∧ But Y w w' := by
  obtain ⟨bv, X, h1, h2, h3, h4, h5⟩ := h
  have hzl := hR.1
  have HLd := hid (Lend_any L bv a n c zs w (by omega) h1 (hR.mono (Y := XL L bv) (fun x _ hx => (h5 x hx).1)))
  have HRa := hid (hR.mono (Y := XL L bv) (fun x _ hx => (h5 x hx).1))
  obtain ⟨hUb, hUl⟩ := unst_len zs hR.2.1
  have Hh := hid (And.intro h1 (And.intro h2 (And.intro h3 (And.intro h4 h5))))
  have HR := hid hR
  clear h1 h2 h3 h4 h5 hR
  go_enter Try.func5, Try.ntmps5
  go_wp2_with fail
  refine Calls.mono HLd.out ?_
  rintro e w1 ⟨G, M, rfl, hLent, hG, hb1⟩
  have R1 := hid (HRa.out.apart hb1 hG)
  have HUn := hid (Unstamp_all (some ⟨G, 0, none⟩) n (2 * n + 70) zs w1 (by omega) (hLent.rd R1.out.1 R1.out.2.1))
  have L1 := hid hLent
  have HG := hid hG
  have Hb1 := hid hb1
  clear hLent hG hb1 HLd
  go_wp2_with fail
  refine Calls.mono HUn.out ?_
  rintro e w2 ⟨al, rfl, hal, hb2⟩
  have R2 := hid (R1.out.but (But.of_below hb2))
  have HRf := hid (refUnstamp_any a n c zs w2 hcap R2.out.rd)
  clear HUn
  unfold unstV at *
  generalize (unstR zs).1.1 = KK at *
  generalize (unstR zs).1.2 = SS at *
  generalize (unstR zs).2.2 = C at *
  generalize (unstR zs).2.1 = Z at *
  have Lt2 := hid (L1.out.below hb2)
  have HG1 : Hid (G < w1.heap.size) := by
    obtain ⟨ys, hB', _⟩ := L1.out.buf
    exact hB'.lt
  have Hal := hid hal
  have Hb2 := hid hb2
  clear hal hb2
  go_wp2_with fail
  refine Calls.mono HRf.out ?_
  rintro e w3 ⟨a2, n2, c2, rfl, hR3, hb3⟩
  have HR3 := hid hR3
  have Hb3 := hid hb3
  clear hR3 hb3 HRf
  go_wp2_with fail
  refine (num_any C w3).mono ?_
  rintro e w5 ⟨rfl, e5⟩
  have e6 := e5.symm
  subst e6
  clear e5
  have RZ : Hid (Rd w3.heap.size w3 al Z.length Z) := by
    show Rd _ _ _ _ _
    rcases Hal.out with ⟨e1, e2⟩ | ⟨g, e1, _, e2⟩
    · exact ⟨rfl, hUb, .inl (by rw [e2]; rfl)⟩
    · rw [e1]
      have := e2.but (But.of_below (X := fun _ => False) Hb3.out) (fun h => h)
      exact Rd.of_blk this hUb this.lt
  go_wp2_with fail
  refine (SameBytes_eq w3.heap.size al a2 Z.length Z.length n2 c2 Z w3 RZ.out HR3.out).mono ?_
  rintro e w5 ⟨rfl, e5⟩
  have e6 := e5.symm
  subst e6
  clear e5
  have HBk := hid (Back_any L G M a n c zs w3 (by omega) (Lt2.out.below Hb3.out) (R2.out.but (But.of_below Hb3.out)))
  clear RZ HR3
  go_wp2_with fail
  refine Calls.mono HBk.out ?_
  rintro e w4 ⟨rfl, hS4, hb4⟩
  obtain ⟨h1, h2, h3, h4, h5⟩ := Hh.out
  have hXG : ¬ X G := by
    intro hx
    rcases HG.out with hg | hg
    · exact h3 G (.inr hg) hx
    · have h6 := (h4 G hx).2.2
      omega
  have hG1 : G < w1.heap.size := HG1.out
  have z1 := Hb1.out.size
  have z2 := Hb2.out.size
  have z3 := Hb3.out.size
  have z4 := hb4.size
  have bk4 : Bok B X w4 b cnt tot nK := by
    refine (((h2.but Hb1.out (fun x _ hx hl => h3 x hl hx)).but (But.of_below (X := fun _ => False) Hb2.out) (fun _ _ _ h => h)).but (But.of_below (X := fun _ => False) Hb3.out) (fun _ _ _ h => h)).but hb4 (fun x _ hx e => hXG (by rw [← e]; exact hx))
  have HO := hid (Own_any B X w4 b cnt tot nK al Z n (by omega) (by omega) (by omega) (by omega) (by omega) (by omega) (by omega) bk4 hUb (by
    rcases Hal.out with ⟨e1, e2⟩ | ⟨g, e1, hg, e2⟩
    · exact .inl ⟨e1, e2⟩
    · refine .inr ⟨g, e1, (e2.but (But.of_below (X := fun _ => False) Hb3.out) (fun h => h)).but hb4 (fun e => by omega), fun hx => ?_, by omega⟩
      have := (h4 _ hx).2.2
      omega))
  have U4 : Hid (But Y w w4) := by
    show But Y w w4
    have u3 : But Y w w3 := ((Hb1.out.mono (Y := Y) (fun x _ h => (h5 x h).1)).trans (But.of_below Hb2.out)).trans (But.of_below Hb3.out)
    refine u3.comp hb4 (fun x hx e => ?_)
    subst e
    rcases HG.out with hg | hg
    · exact (h5 x (.inr hg)).1
    · omega
  have L4 : Hid (LS w4 L (.slice (some ⟨G, 0, none⟩) M M)) := hS4
  have Hz := hid (And.intro z1 (And.intro z2 (And.intro z3 z4)))
  have HX := hid (And.intro hXG hG1)
  clear hb4 bk4 HBk z1 z2 z3 z4 hXG h1 h2 h3 h4 h5 L1 Lt2 hS4
  go_wp2_with fail
  refine Calls.mono HO.out ?_
  rintro e w6 ⟨rfl, nK', hnK', bk6, u6⟩
  have hHo := hid (Holds_any B _ w6 b (cnt + 1) (tot + Z.length) nK' (by omega) bk6.cut)
  have U6 := hid u6
  clear bk6 u6 HO
  go_wp2_with fail
  refine Calls.mono hHo.out ?_
  rintro e w7 ⟨rfl, bk7, u7⟩
  have K7 := hid bk7
  have U7 := hid u7
  clear bk7 u7 hHo
  go_wp2
  go_ret
  obtain ⟨h1, h2, h3, h4, h5⟩ := Hh.out
  obtain ⟨z1, z2, z3, z4⟩ := Hz.out
  obtain ⟨hXG, hG1⟩ := HX.out
  have z6 := U6.out.size
  have hown : ∀ x, (Value.slice al Z.length Z.length).ownBlock = some x → w1.heap.size ≤ x := by
    intro x hx
    rcases Hal.out with ⟨e1, _⟩ | ⟨g, e1, hg, _⟩
    · rw [e1] at hx; cases hx
    · rw [e1] at hx; cases hx; exact hg
  have hLw := h1.lt
  have hLX : ∀ x, XL L (.slice (some ⟨G, 0, none⟩) M M) x → x < w1.heap.size ∧ ¬ X x := by
    intro x hx
    rcases hx with rfl | hx
    · exact ⟨by omega, h3 x (.inl rfl)⟩
    · cases hx; exact ⟨hG1, hXG⟩
  refine ⟨rfl, tot + Z.length, nK', by omega, hnK', ⟨.slice (some ⟨G, 0, none⟩) M M, _, (L4.out.but U6.out ?_).but U7.out ?_, K7.out, ?_, ?_, ?_⟩, (U4.out.comp U6.out ?_).comp U7.out ?_⟩
  · rintro x hx (q | q)
    · exact (hLX x hx).2 q
    · have := hown x q
      have := (hLX x hx).1
      omega
  · rintro x hx ⟨q | q | q, _⟩
    · exact (hLX x hx).2 q
    · have := hown x q
      have := (hLX x hx).1
      omega
    · have := (hLX x hx).1
      omega
  · rintro x hx ⟨q | q | q, _⟩
    · exact (hLX x hx).2 q
    · have := hown x q
      have := (hLX x hx).1
      omega
    · have := (hLX x hx).1
      omega
  · rintro x ⟨q | q | q, hlt⟩
    · exact ⟨.inl (h4 x q).1, (h4 x q).2.1, Nat.lt_of_lt_of_le hlt U7.out.size⟩
    · have := hown x q
      exact ⟨.inr (by omega), by omega, Nat.lt_of_lt_of_le hlt U7.out.size⟩
    · exact ⟨.inr (by omega), by omega, Nat.lt_of_lt_of_le hlt U7.out.size⟩
  · rintro x (rfl | hx)
    · exact ⟨.inl (h5 x (.inl rfl)).1, (h5 x (.inl rfl)).2⟩
    · have e : x = G := by cases hx; rfl
      rcases HG.out with hg | hg
      · rw [e]
        exact ⟨.inl (h5 G (.inr hg)).1, (h5 G (.inr hg)).2⟩
      · exact ⟨.inr (by omega), by omega⟩
  · rintro x hx (q | q)
    · exact (h4 x q).1
    · have := hown x q
      omega
  · rintro x hx ⟨q | q | q, _⟩
    · exact (h4 x q).1
    · have := hown x q
      omega
    · omega


end Go.Proofs.Yteaebdonnicbkab
