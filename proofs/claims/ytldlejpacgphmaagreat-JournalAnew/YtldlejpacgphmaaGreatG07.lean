import Derived.Test.YtldlejpacgphmaaGreatG03
import Derived.Test.YtldlejpacgphmaaGreatG06
import Derived.Deep.RegionHeld3
namespace Go.Proofs.YtldlejpacgphmaaGreat
open Go.RowKit
theorem arePlaces_any (a : Option Addr) (n c : Nat) (w : World) : Calls Tryz.prog 85 #[.slice a n c] w fun e w' => e = .returned (.func (.func 120) #[] #[.pointer (some ⟨w.heap.size, 0, none⟩)]) ∧ w' = w.alloc (.cells #[.slice a n c] 94) := by
 go_enter Tryz.func85, Tryz.ntmps85
 go_wp2
 go_ret
 exact ⟨rfl, rfl⟩
theorem ask_one {w : World} {p k f : Nat} {cap : Array Value} {code : Int} (hf : f = 120) (H : Calls Tryz.prog f (#[.pointer (some ⟨p, 0, none⟩)] ++ cap) w fun e w' => e = .returned (.int .i64 code) ∧ Below w.heap.size w w') (k0 : w.cell? ⟨k, 0, none⟩ = some (.func (.func f) #[] cap)) :
  Calls Tryz.prog 74 #[.pointer (some ⟨p, 0, none⟩), .slice (some ⟨k, 0, none⟩) 1 1] w fun e w' => e = .returned (.int .i64 code) ∧ Below w.heap.size w w' := by
 subst hf
 have H1 := hid H
 clear H
 go_enter Tryz.func74, Tryz.ntmps74
 by_cases hz : code = 0
 ·subst hz
  go_wp2_with fail
  refine wp_loop_rounds 2 ?_
  rw [rounds_succ]
  go_wp2_with fail
  refine Calls.mono H1.out ?_
  rintro e w1 ⟨rfl, hb⟩
  have Hb := hid hb
  clear hb
  go_wp2_with fail
  rw [rounds_succ]
  go_wp2
  go_ret
  exact ⟨rfl, Hb.out⟩
 ·go_wp2_with fail
  refine wp_loop_rounds 2 ?_
  rw [rounds_succ]
  go_wp2_with fail
  refine Calls.mono H1.out ?_
  rintro e w1 ⟨rfl, hb⟩
  have Hb := hid hb
  clear hb
  go_wp2
  go_ret
  exact ⟨rfl, Hb.out⟩
set_option maxRecDepth 100000 in
set_option maxHeartbeats 1000000 in
theorem arePlaces1_any {w : World} {p c : Nat} {a : Option Addr} {m cap : Nat} {ks : List Int} {lv mv : Value} {aP : Option Addr} {n cP : Nat} {fu : Int} {off : Bool} (hn : n ≤ 1073741824) (hm : m ≤ 1073741824) (hc : w.cell? ⟨c, 0, none⟩ = some (.slice a m cap)) (hR : RdI w.heap.size w a m ks) (hD : Dkb w p lv (.slice aP n cP) mv fu off) :
  Calls Tryz.prog 120 #[.pointer (some ⟨p, 0, none⟩), .pointer (some ⟨c, 0, none⟩)] w fun e w' => e = .returned (.int .i64 (placesC n ks)) ∧ w' = w := by
 have q1 := hD.cell 1
 simp only [List.getElem?_toArray, List.getElem?_cons_succ, List.getElem?_cons_zero] at q1
 obtain ⟨hl, hR⟩ := hR
 have HR := hid hR
 clear hR hD
 go_enter Tryz.func120, Tryz.ntmps120
 go_wp2_with fail
 go_loopw [9, 4] (fun i l wt => ∃ k : Nat, k ≤ m ∧ i = .int .i64 (k : Int) ∧ l = .int .i64 (leastK ks k) ∧ (∀ j, j < k → leastK ks j ≤ ks.getD j 0 ∧ ks.getD j 0 < (n : Int)) ∧ wt = w) (fun i _ _ => m - (intOf i).toNat)
 case atStart => exact ⟨0, Nat.zero_le _, rfl, rfl, fun j hj => by omega, rfl⟩
 case round =>
  obtain ⟨k, hk, rfl, rfl, hg, rfl⟩ := hrel
  by_cases hkm : k < m
  ·obtain ⟨b, o, rfl, hb, hcs⟩ := HR.out.resolve_left (by omega)
   have r0 := hcs k hkm
   have hkm' : (k : Int) < (m : Int) := by omega
   have hg' := hid hg
   clear hcs hg
   by_cases h1 : ks.getD k 0 < leastK ks k
   ·have hno : placesC n ks = 26 := if_neg (fun hG => by have := (hG k (by omega)).1; omega)
    generalize leastK ks k = L at *
    generalize ks.getD k 0 = z at *
    go_wp2
    go_ret
    exact ⟨by first | rfl | (rw [hno]; rfl), rfl⟩
   ·by_cases h2 : (n : Int) ≤ ks.getD k 0
    ·have hno : placesC n ks = 26 := if_neg (fun hG => by have := (hG k (by omega)).2; omega)
     generalize leastK ks k = L at *
     generalize ks.getD k 0 = z at *
     go_wp2
     go_ret
     exact ⟨by first | rfl | (rw [hno]; rfl), rfl⟩
    ·have hnx : leastK ks (k + 1) = ks.getD k 0 + 1 := by unfold leastK; rw [if_neg (by omega), Nat.add_sub_cancel]
     have hgk : leastK ks k ≤ ks.getD k 0 ∧ ks.getD k 0 < (n : Int) := by omega
     have hlo : -9223372036854775808 ≤ ks.getD k 0 := by
      have h3 : ∀ j, j ≤ k → 0 ≤ leastK ks j := by
       intro j
       induction j with
       | zero => intro _; simp [leastK]
       | succ j ih =>
        intro hj
        have := (hg'.out j (by omega)).1
        have := ih (by omega)
        unfold leastK
        rw [if_neg (by omega), Nat.add_sub_cancel]
        omega
      have := h3 k (Nat.le_refl _)
      omega
     have Hgk := hid hgk
     have Hnx := hid hnx
     clear hgk hnx
     generalize hz : ks.getD k 0 = z at *
     generalize hL : leastK ks k = L at *
     go_wp2_with fail
     go_roundw
     case rel =>
      refine ⟨k + 1, by omega, by go_num, by rw [Hnx.out], fun j hj => ?_, by first | rfl | trivial⟩
      by_cases e : j = k
      ·subst e; rw [hz, hL]; exact Hgk.out
      ·exact hg'.out j (by omega)
     case measure => simp [intOf]; omega
  ·obtain rfl : k = m := by omega
   have hyes : placesC n ks = 0 := if_pos (fun i hi => hg i (by omega))
   clear hg
   generalize leastK ks k = L at *
   go_wp2
   go_ret
   exact ⟨by first | rfl | (rw [hyes]; rfl), rfl⟩
set_option maxRecDepth 100000 in
set_option maxHeartbeats 1000000 in
theorem Crash_any {X : Nat → Prop} {w : World} {p : Nat} {img : List Int} {puts : List (Nat × List Int)} {fu : Int} {off : Bool} {nb : Nat} (h : Dk X w p img puts fu off nb) (hl : puts.length ≤ 1073741824) (a : Option Addr) (m cap : Nat) (ks : List Int) (hm : m ≤ 1073741824) (hR : RdI w.heap.size w a m ks) :
  Calls Tryz.prog 52 #[.pointer (some ⟨p, 0, none⟩), .slice a m cap] w fun e w' => Below w.heap.size w w' ∧
   ((placesC puts.length ks ≠ 0 ∧ e = .returned (.tuple #[.slice none 0 0, .int .i64 26])) ∨
   (placesC puts.length ks = 0 ∧ ∃ g c, e = .returned (.tuple #[.slice (some ⟨g, 0, none⟩) img.length c, .int .i64 0]) ∧ w.heap.size ≤ g ∧ Own w' g img.length c (crashZ img puts ks) ∧ Pl.isB (crashZ img puts ks))) := by
 obtain ⟨ds, gL, cL, pv, mp, rfl, h⟩ := h
 obtain ⟨aP, cP, rfl, _⟩ := owns_slice h.row
 have hlen := h.own.len
 have hhi := h.hi
 simp only [List.length_map] at hl ⊢
 have HI := hid (arePlaces_any a m cap w)
 obtain ⟨w2, hw2⟩ : ∃ w2, w2 = (w.alloc (.cells #[.slice a m cap] 94)).alloc (.cells #[.func (.func 120) #[] #[.pointer (some ⟨w.heap.size, 0, none⟩)]] 122) := ⟨_, rfl⟩
 have b2 : Below w.heap.size w w2 := by rw [hw2]; exact ((Below.refl _ _).alloc (Nat.le_refl _) _).alloc (by simp) _
 have z1 : (w.alloc (.cells #[.slice a m cap] 94)).heap.size = w.heap.size + 1 := by simp
 have hc : w2.cell? ⟨w.heap.size, 0, none⟩ = some (.slice a m cap) := by
  rw [hw2, World.cell?_alloc_past _ _ _ (by simp)]
  exact cell_new rfl 0 _ rfl
 have k0 : w2.cell? ⟨w.heap.size + 1, 0, none⟩ = some (.func (.func 120) #[] #[.pointer (some ⟨w.heap.size, 0, none⟩)]) := by rw [hw2]; exact cell_new z1 0 _ rfl
 have hR2 : RdI w2.heap.size w2 a m ks := by
  have := hR.below b2
  obtain ⟨r1, r2⟩ := this
  refine ⟨r1, ?_⟩
  rcases r2 with r2 | ⟨b, o, r3, r4, r5⟩
  ·exact .inl r2
  ·exact .inr ⟨b, o, r3, Nat.lt_of_lt_of_le r4 b2.size, r5⟩
 have h2 := h.keep (w' := w2) (fun x _ hx => b2.block x hx)
 have HT : Calls Tryz.prog 120 (#[.pointer (some ⟨p, 0, none⟩)] ++ #[.pointer (some ⟨w.heap.size, 0, none⟩)]) w2 fun e w' => e = .returned (.int .i64 (placesC ds.length ks)) ∧ Below w2.heap.size w2 w' := (arePlaces1_any hl hm hc hR2 h2.blk).mono (fun e w' ⟨h1, h2⟩ => ⟨h1, h2 ▸ Below.refl _ _⟩)
 have HA := hid (ask_one (f := 120) (cap := #[.pointer (some ⟨w.heap.size, 0, none⟩)]) (k := w.heap.size + 1) rfl HT k0)
 have H2 := hid h2
 have B2 := hid b2
 have HR := hid hR
 clear k0 hc b2 HT h h2 hR2 hR z1
 go_enter Tryz.func52, Tryz.ntmps52
 go_wp2_with fail
 refine Calls.mono HI.out ?_
 rintro e w1 ⟨rfl, rfl⟩
 go_wp2_with fail
 rw [← hw2]
 refine Calls.mono HA.out ?_
 rintro e w3 ⟨rfl, hb3⟩
 have B3 := hid (B2.out.trans (hb3.mono B2.out.size))
 have h3 := H2.out.keep (w' := w3) (fun x _ hx => hb3.block x hx)
 have H3 := hid h3
 have q0 := h3.blk.cell 0
 simp only [List.getElem?_toArray, List.getElem?_cons_zero] at q0
 have HCl := hid (Clone_any ⟨gL, 0, none⟩ (512 * nb) cL img w3 (by omega) (h3.own.rd h3.isb))
 clear hw2 HA HI hb3 H2 B2 h3
 by_cases hz : placesC ds.length ks = 0
 ·simp only [hz]
  go_wp2_with fail
  refine Calls.mono HCl.out ?_
  rintro e w5 ⟨g, cp, rfl, hg, hO, hb5⟩
  have HO := hid hO
  have Hb5 := hid hb5
  have hgw : w.heap.size ≤ g := Nat.le_trans B3.out.size hg
  have hg3 : w3.heap.size ≤ g := hg
  clear hO hb5 hg HCl q0
  go_wp2_with fail
  go_loopw [25] (fun i wt => ∃ k : Nat, k ≤ m ∧ i = .int .i64 (k : Int) ∧ Own wt g (512 * nb) cp ((ks.take k).foldl (layP (ds.map Pw.put)) img) ∧ Pl.isB ((ks.take k).foldl (layP (ds.map Pw.put)) img) ∧ Below w3.heap.size w3 wt) (fun i _ => m - (intOf i).toNat)
  case atStart => exact ⟨0, Nat.zero_le _, rfl, by simpa using HO.out, by simpa using H3.out.isb, Hb5.out⟩
  case round =>
   clear HO Hb5
   obtain ⟨k, hk, rfl, hO, hIB, hbt⟩ := hrel
   have hkl := HR.out.1
   by_cases hkm : k < m
   ·obtain ⟨b, o, rfl, hb, hcs⟩ := HR.out.2.resolve_left (by omega)
    have hG : GoodK ds.length ks := by
     by_cases hG : GoodK ds.length ks
     ·exact hG
     ·unfold placesC at hz; rw [if_neg hG] at hz; omega
    obtain ⟨j, hj⟩ : ∃ j : Nat, ks.getD k 0 = (j : Int) := ⟨(ks.getD k 0).toNat, by have := good_lo hG k (by omega); omega⟩
    have hjn : j < ds.length := by have := (hG k (by omega)).2; omega
    have hd : ds[j]? = some ds[j] := List.getElem?_eq_getElem hjn
    have h4 := H3.out.keep (w' := wr) (fun x _ hx => hbt.block x hx)
    obtain ⟨gP, rfl, hgP, hpc⟩ := wide_cell h4.row (by omega)
    have r1 := hpc _ _ (pcs_get ds j _ hd).1
    have r2 := hpc _ _ (pcs_get ds j _ hd).2
    have q1 := h4.blk.cell 1
    simp only [List.getElem?_toArray, List.getElem?_cons_succ, List.getElem?_cons_zero] at q1
    have r0 := ((B3.out.trans (hbt.mono B3.out.size)).cell (p := ⟨b, o + k, none⟩) hb).trans (hcs k hkm)
    rw [hj] at r0
    have hdd := h4.dat ds[j] (List.getElem_mem hjn)
    have HL := hid (lay_any hO ds[j].at_ ⟨ds[j].g, 0, none⟩ ds[j].c ds[j].data (hdd.1.rd hdd.2.1) (by have := hdd.2.2.2.2; omega) (by omega))
    have hkm' : (k : Int) < (m : Int) := by omega
    have hjn' : (j : Int) < (ds.length : Int) := by omega
    have hst : (ks.take (k + 1)).foldl (layP (ds.map Pw.put)) img = splice ((ks.take k).foldl (layP (ds.map Pw.put)) img) (ds[j].at_ * 512) ds[j].data := by
     rw [fold_snoc _ _ _ (by omega : k < ks.length)]
     have e : ks[k] = (j : Int) := by rw [← hj]; simp [show k < ks.length by omega]
     rw [e]
     unfold layP
     simp [hjn, Pw.put]
    have HS := hid (And.intro hst (And.intro hIB (And.intro hdd.2.1 hbt)))
    clear hcs hO hIB hbt h4 hpc hdd hst hG hd hj
    go_wp2_with fail
    refine Calls.mono HL.out ?_
    rintro e w6 ⟨rfl, hO6, hB6⟩
    have HO6 := hid hO6
    have HB6 := hid hB6
    clear hO6 hB6 HL r0 r1 r2 q1
    go_wp2_with fail
    go_roundw
    case rel =>
     refine ⟨k + 1, by omega, by go_num, by rw [HS.out.1]; exact HO6.out, by rw [HS.out.1]; exact isB_splice HS.out.2.1 HS.out.2.2.1 _, HS.out.2.2.2.trans (HB6.out.below HS.out.2.2.2.size (fun x hx e => by omega))⟩
    case measure => simp [intOf]; omega
   ·obtain rfl : k = m := by omega
    have HO := hid hO
    have Hbt := hid hbt
    have HIB := hid hIB
    clear hO hbt hIB
    go_wp2
    go_ret2
    have hfull : (ks.take k).foldl (layP (ds.map Pw.put)) img = crashZ img (ds.map Pw.put) ks := by rw [← hkl, List.take_length]; rfl
    have hIB := HIB.out
    have hO := HO.out
    rw [hfull] at hIB hO
    refine ⟨B3.out.trans (Hbt.out.mono B3.out.size), ?_⟩
    rw [hlen]
    first
     | exact .inr ⟨rfl, g, cp, rfl, hgw, hO, hIB⟩
     | exact .inr ⟨by assumption, g, cp, rfl, hgw, hO, hIB⟩
     | exact ⟨g, cp, rfl, hgw, hO, hIB⟩
 ·have hz26 : placesC ds.length ks = 26 := by
   unfold placesC at hz ⊢
   split at hz
   ·exact absurd rfl hz
   ·rename_i h; rw [if_neg h]
  go_wp2
  go_ret2
  rw [hz26]
  exact ⟨B3.out, .inl ⟨by omega, rfl⟩⟩
theorem Blocks_any {X : Nat → Prop} {w : World} {p : Nat} {img : List Int} {puts : List (Nat × List Int)} {fu : Int} {off : Bool} {nb : Nat} (h : Dk X w p img puts fu off nb) :
  Calls Tryz.prog 118 #[.pointer (some ⟨p, 0, none⟩)] w fun e w' => e = .returned (.tuple #[.int .i64 (nb : Int), .int .i64 0]) ∧ w' = w := by
 obtain ⟨ds, gL, cL, pv, mp, rfl, h⟩ := h
 have HC := hid (count_any h.hi h.blk)
 clear h
 go_enter Tryz.func118, Tryz.ntmps118
 go_wp2_with fail
 refine (ask_none w).mono ?_
 rintro e w1 ⟨rfl, rfl⟩
 go_wp2_with fail
 refine Calls.mono HC.out ?_
 rintro e w1 ⟨rfl, rfl⟩
 go_wp2
 go_ret2
 exact ⟨rfl, rfl⟩
end Go.Proofs.YtldlejpacgphmaaGreat
namespace Go.Proofs.YtldlejpacgphmaaGreat
open Go.RowKit
def Jb (w : World) (j c : Nat) (fr bl life seq used : Int) (mv : Value) : Prop := w.heap[j]? = some (.cells #[.pointer (some ⟨c, 0, none⟩), .int .i64 fr, .int .i64 bl, .int .i64 life, .int .i64 seq, .int .i64 used, mv] 115 (0, 0))
theorem Jb.lt {w : World} {j c : Nat} {fr bl life seq used : Int} {mv : Value} (h : Jb w j c fr bl life seq used mv) : j < w.heap.size := (Array.getElem?_eq_some_iff.1 h).1
theorem Jb.cell {w : World} {j c : Nat} {fr bl life seq used : Int} {mv : Value} (h : Jb w j c fr bl life seq used mv) (t : Nat) : w.cell? ⟨j, t, none⟩ = #[.pointer (some ⟨c, 0, none⟩), .int .i64 fr, .int .i64 bl, .int .i64 life, .int .i64 seq, .int .i64 used, mv][t]? := by
 unfold Jb at h
 simp [World.cell?, h]
theorem Jb.below {w w' : World} {j c : Nat} {fr bl life seq used : Int} {mv : Value} (h : Jb w j c fr bl life seq used mv) {B : Nat} (hb : Below B w w') (hj : j < B) : Jb w' j c fr bl life seq used mv := (hb.block j hj).trans h
theorem Jb.frozen {w : World} {j c : Nat} {fr bl life seq used : Int} {mv : Value} (h : Jb w j c fr bl life seq used mv) (t : Nat) : w.frozen? ⟨j, t, none⟩ = false := by
 unfold Jb at h
 simp [World.frozen?, h]
theorem jmost_any (fr bl : Int) (lo : 16 ≤ bl) (hi : bl ≤ 524288) (w : World) : Calls Tryz.prog 54 #[.agg #[.int .i64 fr, .int .i64 bl]] w fun e w' => e = .returned (.int .i64 (bl / 2 - 4)) ∧ Below w.heap.size w w' := by
 go_enter Tryz.func54, Tryz.ntmps54
 go_wp2
 go_ret
 exact ⟨rfl, (Below.refl _ _).alloc (Nat.le_refl _) _⟩
theorem jlogRoom_any (fr bl : Int) (lo : 16 ≤ bl) (hi : bl ≤ 524288) (w : World) : Calls Tryz.prog 94 #[.agg #[.int .i64 fr, .int .i64 bl]] w fun e w' => e = .returned (.int .i64 (bl - 1)) ∧ Below w.heap.size w w' := by
 go_enter Tryz.func94, Tryz.ntmps94
 go_wp2
 go_ret
 exact ⟨rfl, (Below.refl _ _).alloc (Nat.le_refl _) _⟩
theorem jlogBlock_any (fr bl i : Int) (lo : 0 ≤ fr) (hi : fr ≤ 524288) (i0 : 0 ≤ i) (i1 : i ≤ 524288) (w : World) : Calls Tryz.prog 95 #[.agg #[.int .i64 fr, .int .i64 bl], .int .i64 i] w fun e w' => e = .returned (.int .i64 (fr + 1 + i)) ∧ Below w.heap.size w w' := by
 go_enter Tryz.func95, Tryz.ntmps95
 go_wp2
 go_ret
 exact ⟨rfl, (Below.refl _ _).alloc (Nat.le_refl _) _⟩
theorem jhas_any (fr bl at_ : Int) (f0 : 0 ≤ fr) (f1 : fr ≤ 524288) (lo : 0 ≤ bl) (hi : bl ≤ 524288) (w : World) : Calls Tryz.prog 119 #[.agg #[.int .i64 fr, .int .i64 bl], .int .i64 at_] w fun e w' => e = .returned (.bool (decide (fr ≤ at_ ∧ at_ < fr + bl))) ∧ Below w.heap.size w w' := by
 have FIN := hid ((Below.refl w.heap.size w).alloc (Nat.le_refl _) (.cells #[.int .i64 fr, .int .i64 bl] 100))
 go_enter Tryz.func119, Tryz.ntmps119
 by_cases h1 : fr ≤ at_
 ·by_cases h2 : at_ < fr + bl
  ·go_wp2
   go_ret
   exact ⟨by simp [h1, h2], FIN.out⟩
  ·go_wp2
   go_ret
   exact ⟨by simp [h2], FIN.out⟩
 ·go_wp2
  go_ret
  exact ⟨by simp; omega, FIN.out⟩
def mostC (bl : Int) : Int := if bl < 16 ∨ 524288 < bl then 40 else 0
set_option maxRecDepth 100000 in
theorem jMost_any (bl : Int) (w : World) : Calls Tryz.prog 18 #[.int .i64 bl] w fun e w' => e = .returned (.tuple #[.int .i64 (if bl < 16 ∨ 524288 < bl then 0 else bl / 2 - 4), .int .i64 (mostC bl)]) ∧ Below w.heap.size w w' := by
 unfold mostC
 have FIN := hid (Below.refl w.heap.size w)
 by_cases h1 : bl < 16
 ·simp only [h1, true_or, if_true]
  go_enter Tryz.func18, Tryz.ntmps18
  go_wp2
  go_ret2
  exact ⟨rfl, FIN.out⟩
 ·by_cases h2 : 524288 < bl
  ·simp only [h2, or_true, if_true]
   go_enter Tryz.func18, Tryz.ntmps18
   go_wp2
   go_ret2
   exact ⟨rfl, FIN.out⟩
  ·simp only [h1, h2, or_self, if_false]
   have H := hid (jmost_any 0 bl (by omega) (by omega) w)
   go_enter Tryz.func18, Tryz.ntmps18
   go_wp2_with fail
   refine Calls.mono H.out ?_
   rintro e w1 ⟨rfl, b1⟩
   have B1 := hid b1
   clear b1
   go_wp2
   go_ret2
   exact ⟨rfl, B1.out⟩
set_option maxRecDepth 100000 in
theorem jask_any {X : Nat → Prop} {w : World} {j c p : Nat} {fr bl life seq used : Int} {mv : Value} {img : List Int} {puts : List (Nat × List Int)} {fu : Int} {off : Bool} {nb : Nat} (hJ : Jb w j c fr bl life seq used mv) (hc : w.cell? ⟨c, 0, none⟩ = some (.pointer (some ⟨p, 0, none⟩))) (hD : Dk X w p img puts fu off nb) :
  Calls Tryz.prog 83 #[.pointer (some ⟨j, 0, none⟩)] w fun e w' => e = .returned (.int .i64 (if off then 24 else 0)) ∧ Below w.heap.size w w' := by
 have H := hid (On_any hD)
 have j0 := hJ.cell 0
 simp at j0
 clear hJ hD
 go_enter Tryz.func83, Tryz.ntmps83
 go_wp2_with fail
 refine Calls.mono H.out ?_
 rintro e w1 ⟨rfl, b1⟩
 have B1 := hid b1
 clear b1 j0 hc
 cases off
 ·go_wp2
  go_ret
  exact ⟨rfl, B1.out⟩
 ·go_wp2
  go_ret
  exact ⟨rfl, B1.out⟩
end Go.Proofs.YtldlejpacgphmaaGreat
namespace Go.Proofs.YtldlejpacgphmaaGreat
open Go.RowKit
def placeC (nb : Nat) (fr bl : Int) : Int := if bl < 16 ∨ 524288 < bl then 40 else if fr < 0 ∨ (nb : Int) - bl < fr then 40 else 0
set_option maxRecDepth 100000 in
set_option maxHeartbeats 4000000 in
theorem jcheckPlace_any {X : Nat → Prop} {w : World} {j c p : Nat} {fr bl life seq used : Int} {mv : Value} {img : List Int} {puts : List (Nat × List Int)} {fu : Int} {off : Bool} {nb : Nat} (hJ : Jb w j c fr bl life seq used mv) (hc : w.cell? ⟨c, 0, none⟩ = some (.pointer (some ⟨p, 0, none⟩))) (hcs : c < w.heap.size) (hD : Dk X w p img puts fu off nb) (hnb : nb ≤ 524288) :
  Calls Tryz.prog 92 #[.pointer (some ⟨j, 0, none⟩)] w fun e w' => e = .returned (.int .i64 (placeC nb fr bl)) ∧ Below w.heap.size w w' := by
 have H := hid (jMost_any bl w)
 have j2 := hJ.cell 2
 simp at j2
 have HJ := hid hJ
 have HD := hid hD
 have HC := hid (And.intro hc hcs)
 clear hJ hD hc hcs
 unfold placeC
 unfold mostC at H
 by_cases h1 : bl < 16 ∨ 524288 < bl
 ·simp only [if_pos h1] at H ⊢
  clear h1
  go_enter Tryz.func92, Tryz.ntmps92
  go_wp2_with fail
  refine Calls.mono H.out ?_
  rintro e w1 ⟨rfl, b1⟩
  have B1 := hid b1
  clear b1 j2 H
  go_wp2
  go_ret
  exact ⟨rfl, B1.out⟩
 ·simp only [if_neg h1] at H ⊢
  have i1 : 16 ≤ bl := by omega
  have i2 : bl ≤ 524288 := by omega
  clear h1
  obtain ⟨code, hcode⟩ : ∃ code : Int, code = if fr < 0 ∨ (nb : Int) - bl < fr then 40 else 0 := ⟨_, rfl⟩
  rw [← hcode]
  have HCd := hid hcode
  clear hcode
  go_enter Tryz.func92, Tryz.ntmps92
  go_wp2_with fail
  refine Calls.mono H.out ?_
  rintro e w1 ⟨rfl, b1⟩
  have B1 := hid b1
  have hJ1 := HJ.out.below b1 HJ.out.lt
  have j0 := hJ1.cell 0
  have j1 := hJ1.cell 1
  have j2' := hJ1.cell 2
  simp at j0 j1 j2'
  have c0 := (b1.cell (p := ⟨c, 0, none⟩) HC.out.2).trans HC.out.1
  have HB := hid (Blocks_any (HD.out.below b1))
  clear b1 j2 hJ1 H
  go_wp2_with fail
  refine Calls.mono HB.out ?_
  rintro e w2 ⟨rfl, hw2⟩
  rw [hw2]
  clear hw2 HB
  by_cases h2 : fr < 0
  ·have hc := HCd.out
   rw [if_pos (.inl h2)] at hc
   subst hc
   clear HCd
   go_wp2_with fail
   go_region
   all_goals
    go_wp2
    go_ret
    exact ⟨rfl, by simpa using B1.out.drew⟩
  ·obtain ⟨f, rfl⟩ : ∃ f : Nat, fr = (f : Int) := ⟨fr.toNat, by omega⟩
   clear h2
   have hw : IntKind.i64.wrap ((nb : Int) - bl) = (nb : Int) - bl := by rw [IntKind.wrap_i64]; omega
   by_cases h3 : (nb : Int) - bl < f
   ·have hc := HCd.out
    rw [if_pos (.inr h3)] at hc
    subst hc
    clear HCd HJ HD HC j0 c0
    go_wp2_with fail
    go_region_held3 (fun w' => w'.cell? ⟨j, 1, none⟩ = some (.int .i64 (f : Int)) ∧ w'.cell? ⟨j, 2, none⟩ = some (.int .i64 bl)) (first | (exact ⟨by assumption, by assumption⟩) | go_keep) (fail)
    go_wp2
    go_ret
    exact ⟨rfl, by simpa using B1.out.drew⟩
   ·have hc := HCd.out
    rw [if_neg (by omega)] at hc
    subst hc
    clear HCd HJ HD HC j0 c0
    go_wp2_with fail
    go_region_held3 (fun w' => w'.cell? ⟨j, 1, none⟩ = some (.int .i64 (f : Int)) ∧ w'.cell? ⟨j, 2, none⟩ = some (.int .i64 bl)) (first | (exact ⟨by assumption, by assumption⟩) | go_keep) (fail)
    go_wp2
    go_ret
    exact ⟨rfl, by simpa using B1.out.drew⟩
end Go.Proofs.YtldlejpacgphmaaGreat
namespace Go.Proofs.YtldlejpacgphmaaGreat
open Go.RowKit
def homeC (nb : Nat) (fr bl at_ : Int) : Int := if at_ < 0 ∨ (nb : Int) ≤ at_ ∨ (fr ≤ at_ ∧ at_ < fr + bl) then 42 else 0
set_option maxRecDepth 100000 in
set_option maxHeartbeats 1000000 in
theorem jcheckHome_any {X : Nat → Prop} {w : World} {j c p : Nat} {fr bl life seq used : Int} {mv : Value} {img : List Int} {puts : List (Nat × List Int)} {fu : Int} {off : Bool} {nb : Nat} (hJ : Jb w j c fr bl life seq used mv) (hc : w.cell? ⟨c, 0, none⟩ = some (.pointer (some ⟨p, 0, none⟩))) (hD : Dk X w p img puts fu off nb) (hf : 0 ≤ fr) (hf1 : fr ≤ 524288) (hb0 : 0 ≤ bl) (hb : bl ≤ 524288) (at_ : Int) :
  Calls Tryz.prog 84 #[.pointer (some ⟨j, 0, none⟩), .int .i64 at_] w fun e w' => e = .returned (.int .i64 (homeC nb fr bl at_)) ∧ Below w.heap.size w w' := by
 have HB := hid (Blocks_any hD)
 have HH := hid (fun w => jhas_any fr bl at_ hf hf1 hb0 hb w)
 obtain ⟨code, hcode⟩ : ∃ code : Int, code = homeC nb fr bl at_ := ⟨_, rfl⟩
 rw [← hcode]
 unfold homeC at hcode
 have HCd := hid hcode
 have j0 := hJ.cell 0
 have j1 := hJ.cell 1
 have j2 := hJ.cell 2
 simp at j0 j1 j2
 clear hJ hD hcode
 go_enter Tryz.func84, Tryz.ntmps84
 go_wp2_with fail
 refine Calls.mono HB.out ?_
 rintro e w2 ⟨rfl, hw2⟩
 rw [hw2]
 clear hw2 HB j0 hc
 by_cases h2 : at_ < 0
 ·have hc := HCd.out
  rw [if_pos (.inl h2)] at hc
  subst hc
  clear HCd
  go_wp2
  go_ret
  exact ⟨rfl, Below.refl _ _⟩
 ·by_cases h3 : (nb : Int) ≤ at_
  ·have hc := HCd.out
   rw [if_pos (.inr (.inl h3))] at hc
   subst hc
   clear HCd
   go_wp2
   go_ret
   exact ⟨rfl, Below.refl _ _⟩
  ·have HH2 := hid (HH.out w)
   clear HH
   by_cases h4 : fr ≤ at_ ∧ at_ < fr + bl
   ·have hc := HCd.out
    rw [if_pos (.inr (.inr h4))] at hc
    subst hc
    simp only [decide_eq_true h4] at HH2
    clear HCd h4
    go_wp2_with fail
    refine Calls.mono HH2.out ?_
    rintro e w3 ⟨rfl, b3⟩
    have B3 := hid b3
    clear b3 HH2
    go_wp2
    go_ret
    exact ⟨rfl, B3.out⟩
   ·have hc := HCd.out
    rw [if_neg (by omega)] at hc
    subst hc
    simp only [decide_eq_false h4] at HH2
    clear HCd h4
    go_wp2_with fail
    refine Calls.mono HH2.out ?_
    rintro e w3 ⟨rfl, b3⟩
    have B3 := hid b3
    clear b3 HH2
    go_wp2
    go_ret
    exact ⟨rfl, B3.out⟩
theorem jtakesMore_any {w : World} {j c : Nat} {fr bl life seq used : Int} {mv : Value} (hJ : Jb w j c fr bl life seq used mv) : Calls Tryz.prog 110 #[.pointer (some ⟨j, 0, none⟩)] w fun e w' => e = .returned (.bool (decide (seq < 1099511627776))) ∧ w' = w := by
 have j4 := hJ.cell 4
 simp at j4
 clear hJ
 go_enter Tryz.func110, Tryz.ntmps110
 go_wp2
 go_ret
 exact ⟨rfl, rfl⟩
end Go.Proofs.YtldlejpacgphmaaGreat
namespace Go.Proofs.YtldlejpacgphmaaGreat
open Go.RowKit
def Turn (k : Nat) (Q : Ending → World → Prop) : List (Nat × Value) → World → Prop
 | [], w => Q (.returned (.int .i64 0)) w
 | f :: fs, w => Calls Tryz.prog f.1 #[f.2] w fun e w' => ∃ code : Int, e = .returned (.int .i64 code) ∧ (code ≠ 0 → Q e w') ∧ (code = 0 → w'.heap[k]? = w.heap[k]? ∧ Turn k Q fs w')
theorem cell_block {w w' : World} {k : Nat} (h : w'.heap[k]? = w.heap[k]?) (t : Nat) : w'.cell? ⟨k, t, none⟩ = w.cell? ⟨k, t, none⟩ := by simp [World.cell?, h]
set_option maxRecDepth 100000 in
set_option maxHeartbeats 1000000 in
theorem inTurn_any {k : Nat} {Q : Ending → World → Prop} (fs : List (Nat × Value)) (hn : fs.length ≤ 16) (hf : ∀ (i : Nat) (g : Nat × Value), fs[i]? = some g → g.1 = 62 ∨ g.1 = 63 ∨ g.1 = 64 ∨ g.1 = 65 ∨ g.1 = 68 ∨ g.1 = 69 ∨ g.1 = 70 ∨ g.1 = 71 ∨ g.1 = 83 ∨ g.1 = 92 ∨ g.1 = 100 ∨ g.1 = 101 ∨ g.1 = 132) (w : World) (hc : ∀ i f, fs[i]? = some f → w.cell? ⟨k, i, none⟩ = some (.func (.func f.1) #[f.2] #[])) (H : Turn k Q fs w) :
  Calls Tryz.prog 61 #[.slice (some ⟨k, 0, none⟩) fs.length fs.length] w Q := by
 have HF := hid hf
 clear hf
 have HC := hid hc
 have HT := hid H
 clear hc H
 generalize hL : fs.length = n at *
 go_enter Tryz.func61, Tryz.ntmps61
 go_wp2_with fail
 go_loopw [8] (fun i wr => ∃ q : Nat, q ≤ n ∧ i = .int .i64 (q : Int) ∧ (∀ i f, fs[i]? = some f → wr.cell? ⟨k, i, none⟩ = some (.func (.func f.1) #[f.2] #[])) ∧ Turn k Q (fs.drop q) wr) (fun i _ => n - (intOf i).toNat)
 case atStart => exact ⟨0, Nat.zero_le _, rfl, HC.out, HT.out⟩
 case round =>
  clear HC HT
  obtain ⟨q, hq, rfl, hcl, hT⟩ := hrel
  by_cases hqn : q < n
  ·have hqL : q < fs.length := by omega
   have hd : fs.drop q = fs[q] :: fs.drop (q + 1) := List.drop_eq_getElem_cons hqL
   have e0 := hcl q fs[q] (List.getElem?_eq_getElem hqL)
   have hfq := HF.out q fs[q] (List.getElem?_eq_getElem hqL)
   rw [hd] at hT
   have HT := hid hT
   have HC := hid hcl
   have hqn' : (q : Int) < (n : Int) := by omega
   clear hT hcl hd
   generalize fs[q] = g at *
   obtain ⟨f, r⟩ := g
   simp only at e0 hfq
   have HT2 : Hid (Calls Tryz.prog f #[r] wr fun e w' => ∃ code : Int, e = .returned (.int .i64 code) ∧ (code ≠ 0 → Q e w') ∧ (code = 0 → w'.heap[k]? = wr.heap[k]? ∧ Turn k Q (fs.drop (q + 1)) w')) := HT.out
   clear HT HF
   rcases hfq with rfl | rfl | rfl | rfl | rfl | rfl | rfl | rfl | rfl | rfl | rfl | rfl | rfl
   all_goals
    go_wp2_with fail
    refine Calls.mono HT2.out ?_
    rintro e w2 ⟨code, rfl, h1, h2⟩
    have H1 := hid h1
    have H2 := hid h2
    clear h1 h2 HT2 e0
    by_cases hz : code = 0
    ·have H3 := hid (H2.out hz)
     clear H1 H2
     subst hz
     go_wp2_with fail
     go_roundw
     case rel => exact ⟨q + 1, by omega, by go_num, fun i f hi => (cell_block H3.out.1 i).trans (HC.out i f hi), H3.out.2⟩
     case measure => simp [intOf]; omega
    ·go_wp2
     first | exact H1.out hz | (go_ret; exact H1.out hz)
  ·have hqn' : ¬ (q : Int) < (n : Int) := by omega
   have hq2 : fs.drop q = [] := List.drop_eq_nil_of_le (by omega)
   rw [hq2] at hT
   have HT : Hid (Q (.returned (.int .i64 0)) wr) := hT
   clear hT hcl HF
   go_wp2
   first | exact HT.out | (go_ret; exact HT.out)
end Go.Proofs.YtldlejpacgphmaaGreat
namespace Go.Proofs.YtldlejpacgphmaaGreat
open Go.RowKit
def imgB (im : List Int) (i : Nat) : List Int := (im.drop (512 * i)).take 512
theorem get_splice {L cs : List Int} {o : Nat} (h : o + cs.length ≤ L.length) (j : Nat) : (splice L o cs)[j]? = if j < o then L[j]? else if j < o + cs.length then cs[j - o]? else L[j]? := by
 have hl : (L.take o).length = o := by simp; omega
 unfold splice
 by_cases h1 : j < o
 ·rw [if_pos h1, List.getElem?_append_left (by omega), List.getElem?_take_of_lt h1]
 ·rw [if_neg h1, List.getElem?_append_right (by omega), hl]
  by_cases h2 : j < o + cs.length
  ·rw [if_pos h2, List.getElem?_append_left (by omega)]
  ·rw [if_neg h2, List.getElem?_append_right (by omega), List.getElem?_drop]
   congr 1
   omega
theorem get_imgB (L : List Int) (i t : Nat) : (imgB L i)[t]? = if t < 512 then L[512 * i + t]? else none := by
 unfold imgB
 by_cases h : t < 512
 ·rw [if_pos h, List.getElem?_take_of_lt h, List.getElem?_drop]
 ·rw [if_neg h]
  exact List.getElem?_eq_none (by simp; omega)
theorem imgB_splice {im d : List Int} {nb x : Nat} (i : Nat) (hlen : im.length = 512 * nb) (hd : d.length = 512) (hx : x < nb) : imgB (splice im (x * 512) d) i = if i = x then d else imgB im i := by
 apply List.ext_getElem?
 intro t
 rw [get_imgB]
 by_cases ht : t < 512
 ·rw [if_pos ht, get_splice (by omega)]
  by_cases e : i = x
  ·subst e
   rw [if_neg (by omega), if_pos (by omega), if_pos rfl]
   congr 1
   omega
  ·rw [if_neg e, get_imgB, if_pos ht]
   by_cases h1 : i < x
   ·rw [if_pos (by omega)]
   ·rw [if_neg (by omega), if_neg (by omega)]
 ·rw [if_neg ht]
  by_cases e : i = x
  ·rw [if_pos e]; exact (List.getElem?_eq_none (by omega)).symm
  ·rw [if_neg e, get_imgB, if_neg ht]
def Fit (nb : Nat) (puts : List (Nat × List Int)) : Prop := ∀ q ∈ puts, q.1 < nb ∧ q.2.length = 512 ∧ Pl.isB q.2
theorem flush_seen {nb x : Nat} (puts : List (Nat × List Int)) : ∀ (img : List Int), img.length = 512 * nb → Fit nb puts → imgB (flushZ img puts) x = seenZ img puts x := by
 induction puts with
 | nil => intro img _ _; rfl
 | cons q r ih =>
  intro img hl hf
  obtain ⟨f1, f2, _⟩ := hf q (by simp)
  have e1 : flushZ img (q :: r) = flushZ (splice img (q.1 * 512) q.2) r := rfl
  rw [e1, ih _ (by rw [length_splice _ _ _ (by omega)]; exact hl) (fun q' h => hf q' (by simp [h]))]
  have e2 : seenZ (splice img (q.1 * 512) q.2) r x = r.foldl (fun s q => if q.1 = x then q.2 else s) (imgB (splice img (q.1 * 512) q.2) x) := rfl
  have e3 : seenZ img (q :: r) x = r.foldl (fun s q => if q.1 = x then q.2 else s) (if q.1 = x then q.2 else imgB img x) := rfl
  rw [e2, e3, imgB_splice x hl f2 f1]
  congr 1
  by_cases e : x = q.1
  ·rw [if_pos e, if_pos e.symm]
  ·rw [if_neg e, if_neg (fun h => e h.symm)]
theorem Dk.fit {X : Nat → Prop} {w : World} {p : Nat} {img : List Int} {puts : List (Nat × List Int)} {fu : Int} {off : Bool} {nb : Nat} (h : Dk X w p img puts fu off nb) : Fit nb puts := by
 obtain ⟨ds, gL, cL, pv, mp, rfl, h⟩ := h
 intro q hq
 obtain ⟨d, hd, rfl⟩ := List.mem_map.1 hq
 exact ⟨(h.dat d hd).2.2.2.2, (h.dat d hd).1.len, (h.dat d hd).2.1⟩
theorem mem_holdL {room : Nat} {l : List (Int × List Int)} {x : Int} {zs : List Int} {q : Int × List Int} (h : q ∈ holdL room l x zs) : (q ∈ l ∧ q.1 ≠ x) ∨ q = (x, zs) := by
 have h2 : q ∈ l.filter (fun q => q.1 ≠ x) ++ [(x, zs)] := by
  unfold holdL at h
  split at h
  ·exact List.mem_of_mem_tail h
  ·exact h
 rcases List.mem_append.1 h2 with h2 | h2
 ·obtain ⟨q1, q2⟩ := List.mem_filter.1 h2
  exact .inl ⟨q1, by simpa using q2⟩
 ·exact .inr (by simpa using h2)
theorem Good.read {l : List (Int × List Int)} {img : List Int} {puts : List (Nat × List Int)} {nb : Nat} (h : Good l img puts nb) (room : Nat) (off : Bool) (x : Int) : Good (readL room l (readR img puts off nb x) x) img puts nb := by
 intro q hq
 unfold readL at hq
 split at hq
 ·rename_i hz
  have hr : 0 ≤ x ∧ x < nb ∧ (readR img puts off nb x).2 = seenZ img puts x.toNat := by
   unfold readR at hz ⊢
   split at hz
   ·simp at hz
   ·split at hz
    ·simp at hz
    ·rw [if_neg ‹_›, if_neg ‹_›]
     exact ⟨by omega, by omega, rfl⟩
  rcases mem_holdL hq with q1 | rfl
  ·exact h q q1.1
  ·exact hr
 ·exact h q hq
theorem seen_push (img : List Int) (puts : List (Nat × List Int)) (y : Nat) (zs : List Int) (x : Nat) : seenZ img (puts ++ [(y, zs)]) x = if y = x then zs else seenZ img puts x := by
 unfold seenZ
 rw [List.foldl_append]
 rfl
theorem Good.write {l : List (Int × List Int)} {img : List Int} {puts : List (Nat × List Int)} {nb : Nat} (h : Good l img puts nb) (room : Nat) {x : Int} (h0 : 0 ≤ x) (h1 : x < nb) (zs : List Int) : Good (holdL room l x zs) img (puts ++ [(x.toNat, zs)]) nb := by
 intro q hq
 rcases mem_holdL hq with ⟨q1, q2⟩ | rfl
 ·obtain ⟨a, b, c⟩ := h q q1
  refine ⟨a, b, ?_⟩
  rw [seen_push, if_neg (by omega)]
  exact c
 ·exact ⟨h0, h1, by rw [seen_push, if_pos rfl]⟩
theorem Good.flush {l : List (Int × List Int)} {img : List Int} {puts : List (Nat × List Int)} {nb : Nat} (h : Good l img puts nb) (hl : img.length = 512 * nb) (hf : Fit nb puts) : Good l (flushZ img puts) [] nb := by
 intro q hq
 obtain ⟨a, b, c⟩ := h q hq
 refine ⟨a, b, ?_⟩
 rw [c, ← flush_seen puts img hl hf]
 rfl
theorem Good.nil (img : List Int) (puts : List (Nat × List Int)) (nb : Nat) : Good [] img puts nb := fun q hq => by cases hq
end Go.Proofs.YtldlejpacgphmaaGreat
