/-
  Package disk: Crash, Blocks.
-/
import Derived.Test.YtfadnmdmohabmaaRga
namespace Go.Proofs.Ytfadnmdmohabmaa
open Go.RowKit

theorem arePlaces_any (a : Option Addr) (n c : Nat) (w : World) : Calls Try.prog 82 #[.slice a n c] w fun e w' => e = .returned (.func (.func 92) #[] #[.pointer (some ⟨w.heap.size, 0, none⟩)]) ∧ w' = w.alloc (.cells #[.slice a n c] 43) := by
  go_enter Try.func82, Try.ntmps82
  go_wp2
  go_ret
  exact ⟨rfl, rfl⟩

theorem ask_one {w : World} {p k f : Nat} {cap : Array Value} {code : Int} (hf : f = 92) (H : Calls Try.prog f (#[.pointer (some ⟨p, 0, none⟩)] ++ cap) w fun e w' => e = .returned (.int .i64 code) ∧ Below w.heap.size w w') (k0 : w.cell? ⟨k, 0, none⟩ = some (.func (.func f) #[] cap)) :
    Calls Try.prog 63 #[.pointer (some ⟨p, 0, none⟩), .slice (some ⟨k, 0, none⟩) 1 1] w fun e w' => e = .returned (.int .i64 code) ∧ Below w.heap.size w w' := by
  subst hf
  have H1 := hid H
  clear H
  go_enter Try.func63, Try.ntmps63
  by_cases hz : code = 0
  · subst hz
    go_wp2_with fail
    refine wp_loop_rounds 2 ?_
    rw [rounds_succ]
    go_wp2_with fail
    refine Calls.mono H1.out ?_
    rintro e w1 ⟨rfl, hb⟩
    have Hb := hid hb
    clear hb
    go_wp2_with fail
    rw [rounds_succ]
    go_wp2
    go_ret
    exact ⟨rfl, Hb.out⟩
  · go_wp2_with fail
    refine wp_loop_rounds 2 ?_
    rw [rounds_succ]
    go_wp2_with fail
    refine Calls.mono H1.out ?_
    rintro e w1 ⟨rfl, hb⟩
    have Hb := hid hb
    clear hb
    go_wp2
    go_ret
    exact ⟨rfl, Hb.out⟩

set_option maxRecDepth 100000 in
set_option maxHeartbeats 1000000 in
theorem arePlaces1_any {w : World} {p c : Nat} {a : Option Addr} {m cap : Nat} {ks : List Int} {lv mv : Value} {aP : Option Addr} {n cP : Nat} {fu : Int} {off : Bool} (hn : n ≤ 1073741824) (hm : m ≤ 1073741824) (hc : w.cell? ⟨c, 0, none⟩ = some (.slice a m cap)) (hR : RdI w.heap.size w a m ks) (hD : Dkb w p lv (.slice aP n cP) mv fu off) :
    Calls Try.prog 92 #[.pointer (some ⟨p, 0, none⟩), .pointer (some ⟨c, 0, none⟩)] w fun e w' => e = .returned (.int .i64 (placesC n ks)) ∧ w' = w := by
  have q1 := hD.cell 1
  simp only [List.getElem?_toArray, List.getElem?_cons_succ, List.getElem?_cons_zero] at q1
  obtain ⟨hl, hR⟩ := hR
  have HR := hid hR
  clear hR hD
  go_enter Try.func92, Try.ntmps92
  go_wp2_with fail
  go_loopw [9, 4] (fun i l wt => ∃ k : Nat, k ≤ m ∧ i = .int .i64 (k : Int) ∧ l = .int .i64 (leastK ks k) ∧ (∀ j, j < k → leastK ks j ≤ ks.getD j 0 ∧ ks.getD j 0 < (n : Int)) ∧ wt = w) (fun i _ _ => m - (intOf i).toNat)
  case atStart => exact ⟨0, Nat.zero_le _, rfl, rfl, fun j hj => by omega, rfl⟩
  case round =>
    obtain ⟨k, hk, rfl, rfl, hg, rfl⟩ := hrel
    by_cases hkm : k < m
    · obtain ⟨b, o, rfl, hb, hcs⟩ := HR.out.resolve_left (by omega)
      have r0 := hcs k hkm
      have hkm' : (k : Int) < (m : Int) := by omega
      have hg' := hid hg
      clear hcs hg
      by_cases h1 : ks.getD k 0 < leastK ks k
      · have hno : placesC n ks = 26 := if_neg (fun hG => by have := (hG k (by omega)).1; omega)
        generalize leastK ks k = L at *
        generalize ks.getD k 0 = z at *
        go_wp2
        go_ret
        exact ⟨by first | rfl | (rw [hno]; rfl), rfl⟩
      · by_cases h2 : (n : Int) ≤ ks.getD k 0
        · have hno : placesC n ks = 26 := if_neg (fun hG => by have := (hG k (by omega)).2; omega)
          generalize leastK ks k = L at *
          generalize ks.getD k 0 = z at *
          go_wp2
          go_ret
          exact ⟨by first | rfl | (rw [hno]; rfl), rfl⟩
        · have hnx : leastK ks (k + 1) = ks.getD k 0 + 1 := by unfold leastK; rw [if_neg (by omega), Nat.add_sub_cancel]
          have hgk : leastK ks k ≤ ks.getD k 0 ∧ ks.getD k 0 < (n : Int) := by omega
          have hlo : -9223372036854775808 ≤ ks.getD k 0 := by
            have h3 : ∀ j, j ≤ k → 0 ≤ leastK ks j := by
              intro j
              induction j with
              | zero => intro _; simp [leastK]
              | succ j ih =>
                intro hj
                have := (hg'.out j (by omega)).1
                have := ih (by omega)
                unfold leastK
                rw [if_neg (by omega), Nat.add_sub_cancel]
                omega
            have := h3 k (Nat.le_refl _)
            omega
          have Hgk := hid hgk
          have Hnx := hid hnx
          clear hgk hnx
          generalize hz : ks.getD k 0 = z at *
          generalize hL : leastK ks k = L at *
          go_wp2_with fail
          go_roundw
          case rel =>
            refine ⟨k + 1, by omega, by go_num, by rw [Hnx.out], fun j hj => ?_, by first | rfl | trivial⟩
            by_cases e : j = k
            · subst e; rw [hz, hL]; exact Hgk.out
            · exact hg'.out j (by omega)
          case measure => simp [intOf]; omega
    · obtain rfl : k = m := by omega
      have hyes : placesC n ks = 0 := if_pos (fun i hi => hg i (by omega))
      clear hg
      generalize leastK ks k = L at *
      go_wp2
      go_ret
      exact ⟨by first | rfl | (rw [hyes]; rfl), rfl⟩

set_option maxRecDepth 100000 in
set_option maxHeartbeats 1000000 in
theorem Crash_any {X : Nat → Prop} {w : World} {p : Nat} {img : List Int} {puts : List (Nat × List Int)} {fu : Int} {off : Bool} {nb : Nat} (h : Dk X w p img puts fu off nb) (hl : puts.length ≤ 1073741824) (a : Option Addr) (m cap : Nat) (ks : List Int) (hm : m ≤ 1073741824) (hR : RdI w.heap.size w a m ks) :
    Calls Try.prog 59 #[.pointer (some ⟨p, 0, none⟩), .slice a m cap] w fun e w' => Below w.heap.size w w' ∧
      ((placesC puts.length ks ≠ 0 ∧ e = .returned (.tuple #[.slice none 0 0, .int .i64 26])) ∨
       (placesC puts.length ks = 0 ∧ ∃ g c, e = .returned (.tuple #[.slice (some ⟨g, 0, none⟩) img.length c, .int .i64 0]) ∧ w.heap.size ≤ g ∧ Own w' g img.length c (crashZ img puts ks) ∧ Pl.isB (crashZ img puts ks))) := by
  obtain ⟨ds, gL, cL, pv, mp, rfl, h⟩ := h
  obtain ⟨aP, cP, rfl, _⟩ := owns_slice h.row
  have hlen := h.own.len
  have hhi := h.hi
  simp only [List.length_map] at hl ⊢
  have HI := hid (arePlaces_any a m cap w)
  obtain ⟨w2, hw2⟩ : ∃ w2, w2 = (w.alloc (.cells #[.slice a m cap] 43)).alloc (.cells #[.func (.func 92) #[] #[.pointer (some ⟨w.heap.size, 0, none⟩)]] 116) := ⟨_, rfl⟩
  have b2 : Below w.heap.size w w2 := by rw [hw2]; exact ((Below.refl _ _).alloc (Nat.le_refl _) _).alloc (by simp) _
  have z1 : (w.alloc (.cells #[.slice a m cap] 43)).heap.size = w.heap.size + 1 := by simp
  have hc : w2.cell? ⟨w.heap.size, 0, none⟩ = some (.slice a m cap) := by
    rw [hw2, World.cell?_alloc_past _ _ _ (by simp)]
    exact cell_new rfl 0 _ rfl
  have k0 : w2.cell? ⟨w.heap.size + 1, 0, none⟩ = some (.func (.func 92) #[] #[.pointer (some ⟨w.heap.size, 0, none⟩)]) := by rw [hw2]; exact cell_new z1 0 _ rfl
  have hR2 : RdI w2.heap.size w2 a m ks := by
    have := hR.below b2
    obtain ⟨r1, r2⟩ := this
    refine ⟨r1, ?_⟩
    rcases r2 with r2 | ⟨b, o, r3, r4, r5⟩
    · exact .inl r2
    · exact .inr ⟨b, o, r3, Nat.lt_of_lt_of_le r4 b2.size, r5⟩
  have h2 := h.keep (w' := w2) (fun x _ hx => b2.block x hx)
  have HT : Calls Try.prog 92 (#[.pointer (some ⟨p, 0, none⟩)] ++ #[.pointer (some ⟨w.heap.size, 0, none⟩)]) w2 fun e w' => e = .returned (.int .i64 (placesC ds.length ks)) ∧ Below w2.heap.size w2 w' := (arePlaces1_any hl hm hc hR2 h2.blk).mono (fun e w' ⟨h1, h2⟩ => ⟨h1, h2 ▸ Below.refl _ _⟩)
  have HA := hid (ask_one (f := 92) (cap := #[.pointer (some ⟨w.heap.size, 0, none⟩)]) (k := w.heap.size + 1) rfl HT k0)
  have H2 := hid h2
  have B2 := hid b2
  have HR := hid hR
  clear k0 hc b2 HT h h2 hR2 hR z1
  go_enter Try.func59, Try.ntmps59
  go_wp2_with fail
  refine Calls.mono HI.out ?_
  rintro e w1 ⟨rfl, rfl⟩
  go_wp2_with fail
  rw [← hw2]
  refine Calls.mono HA.out ?_
  rintro e w3 ⟨rfl, hb3⟩
  have B3 := hid (B2.out.trans (hb3.mono B2.out.size))
  have h3 := H2.out.keep (w' := w3) (fun x _ hx => hb3.block x hx)
  have H3 := hid h3
  have q0 := h3.blk.cell 0
  simp only [List.getElem?_toArray, List.getElem?_cons_zero] at q0
  have HCl := hid (Clone_any ⟨gL, 0, none⟩ (512 * nb) cL img w3 (by omega) (h3.own.rd h3.isb))
  clear hw2 HA HI hb3 H2 B2 h3
  by_cases hz : placesC ds.length ks = 0
  · simp only [hz]
    go_wp2_with fail
    refine Calls.mono HCl.out ?_
    rintro e w5 ⟨g, cp, rfl, hg, hO, hb5⟩
    have HO := hid hO
    have Hb5 := hid hb5
    have hgw : w.heap.size ≤ g := Nat.le_trans B3.out.size hg
    have hg3 : w3.heap.size ≤ g := hg
    clear hO hb5 hg HCl q0
    go_wp2_with fail
    go_loopw [25] (fun i wt => ∃ k : Nat, k ≤ m ∧ i = .int .i64 (k : Int) ∧ Own wt g (512 * nb) cp ((ks.take k).foldl (layP (ds.map Pw.put)) img) ∧ Pl.isB ((ks.take k).foldl (layP (ds.map Pw.put)) img) ∧ Below w3.heap.size w3 wt) (fun i _ => m - (intOf i).toNat)
    case atStart => exact ⟨0, Nat.zero_le _, rfl, by simpa using HO.out, by simpa using H3.out.isb, Hb5.out⟩
    case round =>
      clear HO Hb5
      obtain ⟨k, hk, rfl, hO, hIB, hbt⟩ := hrel
      have hkl := HR.out.1
      by_cases hkm : k < m
      · obtain ⟨b, o, rfl, hb, hcs⟩ := HR.out.2.resolve_left (by omega)
        have hG : GoodK ds.length ks := by
          by_cases hG : GoodK ds.length ks
          · exact hG
          · unfold placesC at hz; rw [if_neg hG] at hz; omega
        obtain ⟨j, hj⟩ : ∃ j : Nat, ks.getD k 0 = (j : Int) := ⟨(ks.getD k 0).toNat, by have := good_lo hG k (by omega); omega⟩
        have hjn : j < ds.length := by have := (hG k (by omega)).2; omega
        have hd : ds[j]? = some ds[j] := List.getElem?_eq_getElem hjn
        have h4 := H3.out.keep (w' := wr) (fun x _ hx => hbt.block x hx)
        obtain ⟨gP, rfl, hgP, hpc⟩ := wide_cell h4.row (by omega)
        have r1 := hpc _ _ (pcs_get ds j _ hd).1
        have r2 := hpc _ _ (pcs_get ds j _ hd).2
        have q1 := h4.blk.cell 1
        simp only [List.getElem?_toArray, List.getElem?_cons_succ, List.getElem?_cons_zero] at q1
        have r0 := ((B3.out.trans (hbt.mono B3.out.size)).cell (p := ⟨b, o + k, none⟩) hb).trans (hcs k hkm)
        rw [hj] at r0
        have hdd := h4.dat ds[j] (List.getElem_mem hjn)
        have HL := hid (lay_any hO ds[j].at_ ⟨ds[j].g, 0, none⟩ ds[j].c ds[j].data (hdd.1.rd hdd.2.1) (by have := hdd.2.2.2.2; omega) (by omega))
        have hkm' : (k : Int) < (m : Int) := by omega
        have hjn' : (j : Int) < (ds.length : Int) := by omega
        have hst : (ks.take (k + 1)).foldl (layP (ds.map Pw.put)) img = splice ((ks.take k).foldl (layP (ds.map Pw.put)) img) (ds[j].at_ * 512) ds[j].data := by
          rw [fold_snoc _ _ _ (by omega : k < ks.length)]
          have e : ks[k] = (j : Int) := by rw [← hj]; simp [show k < ks.length by omega]
          rw [e]
          unfold layP
          simp [hjn, Pw.put]
        have HS := hid (And.intro hst (And.intro hIB (And.intro hdd.2.1 hbt)))
        clear hcs hO hIB hbt h4 hpc hdd hst hG hd hj
        go_wp2_with fail
        refine Calls.mono HL.out ?_
        rintro e w6 ⟨rfl, hO6, hB6⟩
        have HO6 := hid hO6
        have HB6 := hid hB6
        clear hO6 hB6 HL r0 r1 r2 q1
        go_wp2_with fail
        go_roundw
        case rel =>
          refine ⟨k + 1, by omega, by go_num, by rw [HS.out.1]; exact HO6.out, by rw [HS.out.1]; exact isB_splice HS.out.2.1 HS.out.2.2.1 _, HS.out.2.2.2.trans (HB6.out.below HS.out.2.2.2.size (fun x hx e => by omega))⟩
        case measure => simp [intOf]; omega
      · obtain rfl : k = m := by omega
        have HO := hid hO
        have Hbt := hid hbt
        have HIB := hid hIB
        clear hO hbt hIB
        go_wp2
        go_ret2
        have hfull : (ks.take k).foldl (layP (ds.map Pw.put)) img = crashZ img (ds.map Pw.put) ks := by rw [← hkl, List.take_length]; rfl
        have hIB := HIB.out
        have hO := HO.out
        rw [hfull] at hIB hO
        refine ⟨B3.out.trans (Hbt.out.mono B3.out.size), ?_⟩
        rw [hlen]
        first
          | exact .inr ⟨rfl, g, cp, rfl, hgw, hO, hIB⟩
          | exact .inr ⟨by assumption, g, cp, rfl, hgw, hO, hIB⟩
          | exact ⟨g, cp, rfl, hgw, hO, hIB⟩
  · have hz26 : placesC ds.length ks = 26 := by
      unfold placesC at hz ⊢
      split at hz
      · exact absurd rfl hz
      · rename_i h; rw [if_neg h]
    go_wp2
    go_ret2
    rw [hz26]
    exact ⟨B3.out, .inl ⟨by omega, rfl⟩⟩

theorem Blocks_any {X : Nat → Prop} {w : World} {p : Nat} {img : List Int} {puts : List (Nat × List Int)} {fu : Int} {off : Bool} {nb : Nat} (h : Dk X w p img puts fu off nb) :
    Calls Try.prog 53 #[.pointer (some ⟨p, 0, none⟩)] w fun e w' => e = .returned (.tuple #[.int .i64 (nb : Int), .int .i64 0]) ∧ w' = w := by
  obtain ⟨ds, gL, cL, pv, mp, rfl, h⟩ := h
  have HC := hid (count_any h.hi h.blk)
  clear h
  go_enter Try.func53, Try.ntmps53
  go_wp2_with fail
  refine (ask_none w).mono ?_
  rintro e w1 ⟨rfl, rfl⟩
  go_wp2_with fail
  refine Calls.mono HC.out ?_
  rintro e w1 ⟨rfl, rfl⟩
  go_wp2
  go_ret2
  exact ⟨rfl, rfl⟩


end Go.Proofs.Ytfadnmdmohabmaa
