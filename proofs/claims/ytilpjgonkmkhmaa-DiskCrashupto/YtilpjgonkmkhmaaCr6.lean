/-
  DiskCrash: the law.
-/
import Derived.Test.YtilpjgonkmkhmaaCr5
import Derived.Deep.RegionHeld3
import Derived.Deep.AppendLies
namespace Go.Proofs.Ytilpjgonkmkhmaa
open Go.RowKit

structure BoolsIn (B : Nat) (w : World) (a : Option Addr) (n : Nat) (ks : List Bool) : Prop where
  len : ks.length = n
  cel : n = 0 ∨ ∃ b o, a = some ⟨b, o, none⟩ ∧ b < B ∧ ∀ t, t < n → w.cell? ⟨b, o + t, none⟩ = some (.bool (ks.getD t false))
theorem BoolsIn.below {B : Nat} {w w' : World} {a : Option Addr} {n : Nat} {ks : List Bool} (h : BoolsIn B w a n ks) (hb : Below B w w') : BoolsIn B w' a n ks :=
  ⟨h.len, h.cel.imp id (fun ⟨b, o, e, l, q⟩ => ⟨b, o, e, l, fun t ht => (hb.cell (p := ⟨b, _, none⟩) l).trans (q t ht)⟩)⟩
theorem BoolsIn.mono {B B' : Nat} {w : World} {a : Option Addr} {n : Nat} {ks : List Bool} (h : BoolsIn B w a n ks) (hb : B ≤ B') : BoolsIn B' w a n ks :=
  ⟨h.len, h.cel.imp id (fun ⟨b, o, e, l, q⟩ => ⟨b, o, e, Nat.lt_of_lt_of_le l hb, q⟩)⟩
theorem newsV1 (w : World) (v : Value) (t : TypeId) {S : Nat} (hS : w.heap.size = S) : ∀ j u, [v][j]? = some u → (w.alloc (.cells #[v] t)).cell? ((⟨S, 0, none⟩ : Addr).add j) = some u := by
  subst hS
  intro j u h
  match j, h with
  | 0, h => simp at h; subst h; simp [Addr.add]
/-- Read of a block that is there, the power on -/
theorem Read_in {X : Nat → Prop} {w : World} {p : Nat} {img : List Int} {puts : List (Nat × List Int)} {fu : Int} {nb : Nat} (h : Dk X w p img puts fu false nb) (x : Nat) (hx : x < nb) (hl : puts.length ≤ 1073741824) (h5 : (seenZ img puts x).length = 512) :
    Calls Try.prog 16 #[.pointer (some ⟨p, 0, none⟩), .int .i64 (x : Int)] w fun e w' => ∃ g c, e = .returned (.tuple #[.slice (some ⟨g, 0, none⟩) 512 c, .int .i64 0]) ∧ Own w' g 512 c (seenZ img puts x) ∧ Below w.heap.size w w' := by
  refine (Read_any h (x : Int) hl).mono ?_
  rintro e w' ⟨al, c, rfl, hc, hb⟩
  have e1 : readR img puts false nb (x : Int) = (0, seenZ img puts x) := by
    unfold readR
    rw [if_neg (by simp), if_neg (by omega), Int.toNat_natCast]
  rw [e1] at hc
  rw [e1]
  rcases hc with ⟨_, _, h0⟩ | ⟨g, rfl, hg, hO⟩
  · simp only at h0
    rw [h0] at h5
    cases h5
  · simp only at hO
    rw [h5] at hO
    exact ⟨g, c, by rw [h5], hO, hb⟩

set_option maxRecDepth 100000 in
set_option maxHeartbeats 4000000 in
theorem crash_law {w : World} (bl : Int) {a aK : Option Addr} {n c nK cK : Nat} {L : List JobD} {ks : List Bool} (hJ : JobsIn w.heap.size w a n L) (hn : n ≤ 1048576) (hK : BoolsIn w.heap.size w aK nK ks) :
    Calls Try.prog 4 #[.int .i64 bl, .slice a n c, .slice aK nK cK] w fun e w' => e = .returned (.bool true) ∧ Below w.heap.size w w' := by
  have HS := hid (size_any bl w)
  have lo := sizeN_lo bl
  have hi := sizeN_hi bl
  generalize sizeN bl = nb at *
  have HW := hid (worked_any (w := w) nb lo hi (c := c) hJ hn)
  have HJ := hid hJ
  have HK := hid hK
  have hlen := hJ.len
  clear hJ hK
  go_enter Try.func4, Try.ntmps4
  go_wp2_with fail
  refine Calls.mono HS.out ?_
  rintro e w0 ⟨rfl, hw0⟩
  rw [hw0]
  clear HS hw0
  go_wp2_with fail
  refine Calls.mono HW.out ?_
  rintro e w1 ⟨p, rfl, hp, hD1, hb1⟩
  have hz0 := jobsZ_len nb L
  have hjz : jobsZ nb L = ((jobsZ nb L).1, (jobsZ nb L).2) := rfl
  generalize himg : (jobsZ nb L).1 = img at *
  generalize hputs : (jobsZ nb L).2 = puts at *
  have HPn := hid (Pending_any hD1 (by omega))
  have H1 := hid (And.intro hD1 hb1)
  clear HW hD1 hb1 hjz
  go_wp2_with fail
  refine Calls.mono HPn.out ?_
  rintro e w2 ⟨gA, rfl, hgA, hA2, hb2⟩
  have HIm := hid (Image_any (H1.out.1.below hb2))
  have H2 := hid (And.intro hA2 hb2)
  clear HPn hA2 hb2
  go_wp2_with fail
  refine Calls.mono HIm.out ?_
  rintro e w3 ⟨gI, cI, rfl, hgI, hI3, hb3⟩
  have hA3 := H2.out.1.of_block (hb3.block gA H2.out.1.lt)
  have hb13 := H2.out.2.trans (hb3.mono H2.out.2.size)
  have hb03 := H1.out.2.trans (hb13.mono H1.out.2.size)
  have hD3 := H1.out.1.below hb13
  obtain ⟨fB, fL, _, _⟩ := hD3.facts
  have hsz : w.heap.size ≤ w3.heap.size := hb03.size
  have hJ3 := (HJ.out.below hb03).mono hsz
  have hK3 := (HK.out.below hb03).mono hsz
  have H3 := hid (And.intro hD3 (And.intro hA3 (And.intro hI3 (And.intro hb03 (And.intro hJ3 hK3)))))
  clear HIm hI3 hb3 hA3 hb13 hD3 H1 H2 hb03 HJ HK hJ3 hK3 hgA hgI hp
  have hmk := make_rows nb (by omega) w3
  obtain ⟨w4, hw4⟩ : ∃ w4, w4 = w3.alloc (.cells (List.replicate nb (Value.slice none 0 0)).toArray 33) := ⟨_, rfl⟩
  rw [← hw4] at hmk
  have HW4 : Hid (Wt w4 w3.heap.size nb 0 (imgB img) ∧ Below w3.heap.size w3 w4 ∧ w4.heap.size = w3.heap.size + 1) := by
    refine ⟨⟨List.replicate nb (.slice none 0 0), ?_, by simp, fun v hv => ⟨none, 0, 0, (List.mem_replicate.1 hv).2⟩, fun j hj => by omega⟩, ?_, ?_⟩
    · rw [hw4]
      show (w3.heap.push _)[w3.heap.size]? = _
      simp
    · rw [hw4]; exact (Below.refl _ _).alloc (Nat.le_refl _) _
    · rw [hw4]; simp
  clear hw4
  rw [fL]
  have Hd := hid (And.intro himg hputs)
  clear himg hputs
  go_wp2_with fail
  clear hmk
  obtain ⟨S, hS⟩ : ∃ S, S = w3.heap.size := ⟨_, rfl⟩
  rw [← hS] at HW4 ⊢
  have hsz' : w.heap.size ≤ S := by omega
  have HSe := hid hS
  clear hS
  go_loopw [17] (fun i wt => ∃ k : Nat, k ≤ nb ∧ i = .int .i64 (k : Int) ∧ Wt wt S nb k (imgB img) ∧ Below S w3 wt ∧ S + 1 ≤ wt.heap.size) (fun i _ => nb - (intOf i).toNat)
  case atStart => exact ⟨0, Nat.zero_le _, rfl, HW4.out.1, HW4.out.2.1, by have := HW4.out.2.2; omega⟩
  case round =>
    clear HW4
    obtain ⟨k, hk, rfl, hW, hbt, hst⟩ := hrel
    by_cases hkn : k < nb
    · have hO := H3.out.2.2.1.keep (hbt.block gI (by have := H3.out.2.2.1.lt; have := HSe.out; omega))
      have hcI := hO.cap
      rw [fL] at hO hcI
      have HBk := hid (block_any gI 0 (512 * nb) cI k wr (by omega) (by omega) hcI)
      obtain ⟨⟨va, vl, vc, cW⟩, fW⟩ := hW.cell hkn
      have hkn' : (k : Int) < (nb : Int) := by omega
      have HN : Hid (∀ c', Wt (wr.setCell ⟨S, k, none⟩ (.slice (some ⟨gI, 512 * k, none⟩) 512 c')) S nb (k + 1) (imgB img)) := fun c' =>
        hW.set hkn (W5.of_own hO fB fL hkn) (fun i hi => by by_cases e : i = k; exact .inl ⟨e, by rw [e]⟩; exact .inr ⟨e, by omega, rfl⟩)
      have Hb : Hid (∀ c', Below S w3 (wr.setCell ⟨S, k, none⟩ (.slice (some ⟨gI, 512 * k, none⟩) 512 c')) ∧ S + 1 ≤ (wr.setCell ⟨S, k, none⟩ (.slice (some ⟨gI, 512 * k, none⟩) 512 c')).heap.size) := fun c' => ⟨hbt.setCell (Nat.le_refl _) _, by simpa [World.setCell] using hst⟩
      clear hO hW hbt
      go_wp2_with fail
      refine Calls.mono HBk.out ?_
      rintro e w5 ⟨rfl, hw5⟩
      rw [hw5, Nat.zero_add]
      clear HBk hw5
      go_wp2_with fail
      go_roundw
      case rel => exact ⟨k + 1, by omega, by go_num, HN.out _, (Hb.out _).1, (Hb.out _).2⟩
      case measure => simp [intOf]; omega
    · obtain rfl : k = nb := by omega
      have HL1 := hid (And.intro hW (And.intro hbt hst))
      clear hW hbt hst
      go_wp2_with fail
      go_loopw [18, 19] (fun lv i wt => ∃ q la : Nat, q ≤ n ∧ lv = .int .i64 (la : Int) ∧ i = .int .i64 (q : Int) ∧ la ≤ q ∧ (jobsZ k (L.take q)).2 = ((L.take q).drop la).map (jput k) ∧ wt = wr) (fun _ i _ => n - (intOf i).toNat)
      case atStart => exact ⟨0, 0, Nat.zero_le _, rfl, rfl, Nat.le_refl _, rfl, rfl⟩
      case round =>
        obtain ⟨q, la, hq, rfl, rfl, hla, hpq, hwr⟩ := hrel
        by_cases hqn : q < n
        · have hJ := H3.out.2.2.2.2.1.below (HSe.out ▸ HL1.out.2.1)
          rw [← hwr] at hJ
          obtain ⟨b, o, rfl, hbb, hc⟩ := hJ.cel.resolve_left (by omega)
          have hqL : q < L.length := by omega
          have hdk : L[q]? = some L[q] := List.getElem?_eq_getElem hqL
          obtain ⟨q0, q1, q2⟩ := hc q _ hdk
          have HLs := hid (last_step hdk hla hpq)
          have hqn' : (q : Int) < (n : Int) := by omega
          have Hwr := hid hwr
          generalize L[q] = d at *
          clear hJ hc hdk hqL q0 q1 hwr hpq
          cases hfl : d.fl
          · rw [hfl] at q2 HLs
            go_wp2_with fail
            go_roundw
            case rel => exact ⟨q + 1, la, by omega, rfl, by go_num, by omega, HLs.out, Hwr.out⟩
            case measure => simp [intOf]; omega
          · rw [hfl] at q2 HLs
            go_wp2_with fail
            go_roundw
            case rel => exact ⟨q + 1, q + 1, by omega, by go_num, by go_num, by omega, HLs.out, Hwr.out⟩
            case measure => simp [intOf]; omega
        · obtain rfl : q = n := by omega
          rw [List.take_of_length_le (by omega), Hd.out.2] at hpq
          have hpl : puts.length = q - la := by rw [hpq]; simp; omega
          have hFit : Fit k puts := by rw [hpq]; exact fit_jput (by omega) _
          have hput : ∀ i d, L[la + i]? = some d → puts[i]? = some (jput k d) := fun i d hd => by rw [hpq, List.getElem?_map, List.getElem?_drop, hd]; rfl
          have HF := hid (And.intro hFit hput)
          have e1 : (q : Int) - (la : Int) = (puts.length : Int) := by omega
          rw [hwr]
          clear hFit hput hwr hpq wr
          go_wp2_with fail
          obtain ⟨i3, hi3, hz3, hs3, hb3⟩ := info_parts info3
          obtain ⟨kf, hkf⟩ : ∃ kf : Nat → Bool, kf = fun i => ks.getD i false := ⟨_, rfl⟩
          have Hkf : Hid (∀ i, kf i = ks.getD i false) := fun i => by rw [hkf]
          have Hpl := hid hpl
          have hpk : puts.length ≤ 1048576 := by omega
          clear hkf hpl
          go_loopw [14, 15, 20] (fun pv av i wt => ∃ m : Nat, m ≤ puts.length ∧ i = .int .i64 (m : Int) ∧ L3 S w3 wt k pv av (sel kf m).length m (sel kf m) (sel (fun _ => true) m) (imgB (crashZ img puts (sel kf m)))) (fun _ _ i _ => puts.length - (intOf i).toNat)
          case atStart => exact ⟨0, Nat.zero_le _, rfl, ⟨HL1.out.2.1, HL1.out.2.2, OwI.nil _ _, OwI.nil _ _, (fun g e => by cases e), HL1.out.1⟩⟩
          case round =>
            clear HL1
            obtain ⟨m, hm, rfl, h3⟩ := hrel
            by_cases hmn : m < puts.length
            · obtain ⟨r, hr⟩ : ∃ r, r = la + m := ⟨_, rfl⟩
              have hrq : r < q := by have := Hpl.out; omega
              have hdk : L[r]? = some (L[r]'(by omega)) := List.getElem?_eq_getElem (by omega)
              obtain ⟨d, hd⟩ : ∃ d, d = L[r]'(by omega) := ⟨_, rfl⟩
              rw [← hd] at hdk
              have hpm := HF.out.2 m d (hr ▸ hdk)
              have HC : Hid (∀ wt, Below S w3 wt → wt.cell? ⟨gA, m, none⟩ = some (.int .i64 (into k d.at_ : Int)) ∧ ∃ b o, a = some ⟨b, o, none⟩ ∧ b < S ∧ wt.cell? ⟨b, o + r * 3, none⟩ = some (.int .i64 d.at_) ∧ wt.cell? ⟨b, o + r * 3 + 1, none⟩ = some (.int .i64 d.fi)) := fun wt hb => by
                have hAb := H3.out.2.1
                have hAl := hAb.lt
                have e0 := HSe.out
                refine ⟨?_, ?_⟩
                · rw [hb.cell (p := ⟨gA, m, none⟩) (by show gA < S; omega), hAb.cell m (by simpa using hmn), List.getD_eq_getElem?_getD, List.getElem?_map, hpm]
                  rfl
                · obtain ⟨b, o, e, hbb, hc⟩ := (H3.out.2.2.2.2.1.below (e0 ▸ hb)).cel.resolve_left (by omega)
                  obtain ⟨c0, c1, _⟩ := hc r _ hdk
                  exact ⟨b, o, e, by omega, c0, c1⟩
              have HKc : Hid (∀ wt, Below S w3 wt → m < nK → ∃ b o, aK = some ⟨b, o, none⟩ ∧ b < S ∧ wt.cell? ⟨b, o + m, none⟩ = some (.bool (kf m))) := fun wt hb hmk => by
                have e0 := HSe.out
                obtain ⟨b, o, e, hbb, hc⟩ := (H3.out.2.2.2.2.2.below (e0 ▸ hb)).cel.resolve_left (by omega)
                exact ⟨b, o, e, by omega, by rw [Hkf.out]; exact hc m hmk⟩
              have HKn : Hid (¬ m < nK → kf m = false) := fun h => by
                rw [Hkf.out, List.getD_eq_getElem?_getD, List.getElem?_eq_none (by have := H3.out.2.2.2.2.2.len; omega)]
                rfl
              have ei := into_eq k d.at_
              have hpl := into_lt d.at_ (m := k) (by omega)
              have ew : IntKind.i64.wrap (into k d.at_ : Int) = (into k d.at_ : Int) := by rw [IntKind.wrap_i64]; omega
              have ewr : IntKind.i64.wrap ((la : Int) + (m : Int)) = (r : Int) := by rw [IntKind.wrap_i64]; omega
              have hz : ¬ (k : Int) = 0 := by omega
              have hz' : ¬ k = 0 := by omega
              have hrq' : (r : Int) < (q : Int) := by omega
              have hr0 : (0 : Int) ≤ (r : Int) := by omega
              have hjp : jput k d = (into k d.at_, blkZ d.fi) := rfl
              rw [hjp] at hpm
              have HStep := hid (And.intro (crash_snoc img puts (sel kf m) m hpm) (crash_len HF.out.1 (sel kf m) fL))
              have HBl := hid (fun w : World => Block_any d.fi w)
              have HBz := hid (And.intro (length_blkZ d.fi) (isB_blkZ d.fi))
              have Hp1 := hid hpl
              generalize into k d.at_ = pl at *
              generalize blkZ d.fi = bz at *
              clear hpm hdk hjp hr hd hrq
              obtain ⟨aP, cP, rfl, _⟩ := owns_slice h3.rp
              obtain ⟨aA, cA, rfl, _⟩ := owns_slice h3.ra
              have HA0 := hid (h3.below ((Below.refl _ _).alloc (Nat.le_refl _) (.cells #[.int .i64 (m : Int)] 3)))
              have hsz3 := h3.sz
              have hmn' : (m : Int) < (puts.length : Int) := by omega
              clear h3
              go_wp2_with (at_builtin; refine wpList_append_lies _ rfl _ _ 38 (by rfl) (S + 1) 3 i3 (.int .i64 0) 1 8 Try.underlying38 hi3 hz3 hs3 hb3 rfl (by decide) _ m ((sel (fun _ => true) m).map (Value.int .i64)) (by rfl) HA0.out.ra ⟨wr.heap.size, 0, none⟩ 1 1 [.int .i64 (m : Int)] (by rfl) (by rfl) (by exact newsV1 _ _ _ rfl) (by intro u hu; simp at hu; subst hu; rfl) (by decide) (by unfold maxLen; omega) (by omega) (by simp; omega) (wr.heap.size + 1) (by simp) ?_)
              intro g4 cap4 w6 ho4 hg4 hlie4 _
              have hA6 : L3 S w3 w6 k (.slice aP (sel kf m).length cP) (.slice (some ⟨g4, 0, none⟩) (m + 1) cap4) (sel kf m).length (m + 1) (sel kf m) (sel (fun _ => true) (m + 1)) (imgB (crashZ img puts (sel kf m))) :=
                HA0.out.growA (by rw [sel_succ, if_pos rfl]; unfold OwI; rw [List.map_append]; exact ho4) hg4 (by simpa using hlie4)
              obtain ⟨c0, b, o, rfl, hbS, c1, c2⟩ := HC.out w6 hA6.bel
              have H6 := hid hA6
              clear ho4 hg4 hlie4 HA0 hA6
              go_wp2_with fail
              go_region_held3 (fun w' => w'.cell? ⟨gA, m, none⟩ = some (.int .i64 (pl : Int)) ∧ w'.cell? ⟨b, o + r * 3, none⟩ = some (.int .i64 d.at_)) (first | exact ⟨by assumption, by assumption⟩ | go_keep) (fail)
              have hD6 := H6.out.below (w' := w6.drew) (Below.refl _ _).drew
              have H7 := hid hD6
              clear H6 c0 c1 c2
              have hnot : Hid (kf m = false → ∀ v' v'', L3 S w3 w6.drew k v' v'' (sel kf m).length (m + 1) (sel kf m) (sel (fun _ => true) (m + 1)) (imgB (crashZ img puts (sel kf m))) → L3 S w3 w6.drew k v' v'' (sel kf (m + 1)).length (m + 1) (sel kf (m + 1)) (sel (fun _ => true) (m + 1)) (imgB (crashZ img puts (sel kf (m + 1))))) := fun h v' v'' => by
                rw [sel_succ kf m, if_neg (by rw [h]; decide)]
                exact id
              by_cases hmk : m < nK
              · obtain ⟨bK, oK, rfl, hbK, cK1⟩ := HKc.out w6.drew hD6.bel hmk
                have hmk' : (m : Int) < (nK : Int) := by omega
                cases hkm : kf m
                · rw [hkm] at cK1
                  clear hD6
                  go_wp2_with fail
                  go_roundw
                  case rel => exact ⟨m + 1, by omega, by go_num, hnot.out hkm _ _ H7.out⟩
                  case measure => simp [intOf]; omega
                · rw [hkm] at cK1
                  have HP0 := hid (hD6.below ((Below.refl _ _).alloc (Nat.le_refl _) (.cells #[.int .i64 (m : Int)] 3)))
                  have hsz6 := hD6.sz
                  have hpn := sel_len kf m
                  generalize hnp : (sel kf m).length = np at *
                  have Hnp := hid hnp
                  clear hD6 H7 hnot hnp
                  go_wp2_with (at_builtin; refine wpList_append_lies _ rfl _ _ 38 (by rfl) (S + 1) 3 i3 (.int .i64 0) 1 8 Try.underlying38 hi3 hz3 hs3 hb3 rfl (by decide) _ np ((sel kf m).map (Value.int .i64)) (by rfl) HP0.out.rp ⟨w6.heap.size, 0, none⟩ 1 1 [.int .i64 (m : Int)] (by rfl) (by rfl) (by exact newsV1 _ _ _ rfl) (by intro u hu; simp at hu; subst hu; rfl) (by decide) (by unfold maxLen; omega) (by omega) (by simp at hsz6 ⊢; omega) (w6.heap.size + 1) (by simp) ?_)
                  intro g8 cap8 w8 ho8 hg8 hlie8 _
                  have hA8 : L3 S w3 w8 k (.slice (some ⟨g8, 0, none⟩) (np + 1) cap8) (.slice (some ⟨g4, 0, none⟩) (m + 1) cap4) (np + 1) (m + 1) (sel kf (m + 1)) (sel (fun _ => true) (m + 1)) (imgB (crashZ img puts (sel kf m))) :=
                    HP0.out.growP (by rw [sel_succ kf m, if_pos hkm]; unfold OwI; rw [List.map_append]; exact ho8) hg8 (by simpa using hlie8)
                  obtain ⟨c0, b', o', e', hbS', c1, c2⟩ := HC.out w8 hA8.bel
                  obtain ⟨rfl, rfl⟩ : b = b' ∧ o = o' := by simpa using e'
                  have hsl : (sel kf (m + 1)).length = np + 1 := by rw [sel_succ kf m, if_pos hkm, List.length_append, Hnp.out]; rfl
                  have HQ : Hid (∀ (w9 : World) (g9 : Nat), Blk .u8 5 w9 g9 bz → Below w8.heap.size w8 w9 → (∃ va vl vc, w9.cell? ⟨S, pl, none⟩ = some (.slice va vl vc)) ∧ w9.frozen? ⟨S, pl, none⟩ = false ∧ w9.cell? ⟨gA, m, none⟩ = some (.int .i64 (pl : Int)) ∧ w9.cell? ⟨b, o + r * 3 + 1, none⟩ = some (.int .i64 d.fi) ∧
                      L3 S w3 (w9.setCell ⟨S, pl, none⟩ (.slice (some ⟨g9, 0, none⟩) 512 512)) k (.slice (some ⟨g8, 0, none⟩) (np + 1) cap8) (.slice (some ⟨g4, 0, none⟩) (m + 1) cap4) (sel kf (m + 1)).length (m + 1) (sel kf (m + 1)) (sel (fun _ => true) (m + 1)) (imgB (crashZ img puts (sel kf (m + 1))))) := fun w9 g9 hB9 hb9 => by
                    have h9 := hA8.below hb9
                    obtain ⟨x1, x2⟩ := h9.wt.cell Hp1.out
                    refine ⟨x1, x2, (HC.out w9 h9.bel).1, ?_, ?_⟩
                    · obtain ⟨_, b2, o2, e2, _, _, y2⟩ := HC.out w9 h9.bel
                      obtain ⟨rfl, rfl⟩ : b = b2 ∧ o = o2 := by simpa using e2
                      exact y2
                    · rw [hsl]
                      refine h9.setW Hp1.out (W5.of_blk hB9 HBz.out.2 HBz.out.1) (fun i hi => ?_)
                      rw [sel_succ kf m, if_pos hkm, HStep.out.1, imgB_splice i HStep.out.2 HBz.out.1 Hp1.out]
                      by_cases e : i = pl
                      · exact .inl ⟨e, if_pos e⟩
                      · exact .inr ⟨e, hi, if_neg e⟩
                  have hgAS : gA < S := by have := H3.out.2.1.lt; have := HSe.out; omega
                  have ne1 : ¬ gA = S := by omega
                  have ne2 : ¬ S = gA := by omega
                  have ne3 : ¬ b = S := by omega
                  have ne4 : ¬ S = b := by omega
                  have hpl' : (pl : Int) < (k : Int) := by omega
                  have HB8 := hid (HBl.out w8.drew)
                  clear ho8 hg8 hlie8 HP0 cK1 e' c1 hA8 hsl
                  go_wp2_with fail
                  go_region_held3 (fun w' => w'.cell? ⟨gA, m, none⟩ = some (.int .i64 (pl : Int)) ∧ w'.cell? ⟨b, o + r * 3 + 1, none⟩ = some (.int .i64 d.fi)) (first | exact ⟨by assumption, by assumption⟩ | go_keep)
                    ((go_at_call 10; refine Calls.mono HB8.out ?_; rintro e w9 ⟨g9, rfl, hg9, hB9, hb9⟩
                      obtain ⟨⟨va, vl, vc, cW⟩, fW, j0, j1, hL9⟩ := HQ.out w9 g9 hB9 (undrew hb9)
                      have H9 := hid hL9
                      clear hg9 hB9 hb9 hL9))
                  go_wp2_with fail
                  go_roundw
                  case rel => exact ⟨m + 1, by omega, by go_num, H9.out⟩
                  case measure => simp [intOf]; omega
              · have hmk' : ¬ (m : Int) < (nK : Int) := by omega
                clear hD6
                go_wp2_with fail
                go_roundw
                case rel => exact ⟨m + 1, by omega, by go_num, hnot.out (HKn.out hmk) _ _ H7.out⟩
                case measure => simp [intOf]; omega
            · obtain rfl : m = puts.length := by omega
              have hsz3 := h3.sz
              obtain ⟨aP, cP, rfl, _⟩ := owns_slice h3.rp
              obtain ⟨aA, cA, rfl, _⟩ := owns_slice h3.ra
              have HDk : Hid (∀ wt, Below S w3 wt → Dk (fun x => w.heap.size ≤ x) wt p img puts (-1) false k) := fun wt hb => H3.out.1.keep (fun x _ hl => hb.block x (by have := HSe.out; omega))
              have HIm : Hid (∀ wt, Below S w3 wt → Own wt gI (512 * k) cI img) := fun wt hb => by
                have := H3.out.2.2.1
                rw [fL] at this
                exact this.keep (hb.block gI (by have := this.lt; have := HSe.out; omega))
              have HAt : Hid (∀ wt, Below S w3 wt → Blk .i64 3 wt gA (puts.map fun q => (q.1 : Int)) ∧ gA < wt.heap.size) := fun wt hb => by
                have := H3.out.2.1
                have h2 := this.of_block (hb.block gA (by have := this.lt; have := HSe.out; omega))
                exact ⟨h2, h2.lt⟩
              have hpn := sel_len kf puts.length
              have HC1 := hid (Crash_any (HDk.out wr h3.bel) (by omega) aP _ cP (sel kf puts.length) (by omega) h3.rp.rdi)
              have HL := hid h3
              have hz1 := sel_places kf puts.length
              have hz2 := sel_places (fun _ => true) puts.length
              have hz3 : placesC puts.length [] = 0 := if_pos (fun i h => by cases h)
              have hll := crash_len HF.out.1 (sel kf puts.length) fL
              have hall := crash_all img puts
              have hfl : (flushZ img puts).length = 512 * k := by rw [← hall]; exact crash_len HF.out.1 _ fL
              have Hll := hid (And.intro hll hfl)
              clear h3 hmn hm hll hfl
              rw [fL] at HC1
              go_wp2_with fail
              refine Calls.mono HC1.out ?_
              rintro e w10 ⟨hb10, hcase⟩
              rcases hcase with ⟨hbad, _⟩ | ⟨_, gL, cL, rfl, hgL, hOL, hBL⟩
              · exact absurd hz1 hbad
              have h10 := HL.out.below hb10
              have HC2 := hid (Crash_any (HDk.out w10 h10.bel) (by omega) aA _ cA (sel (fun _ => true) puts.length) (by omega) h10.ra.rdi)
              rw [fL, hall] at HC2
              have H10 := hid (And.intro h10 (And.intro hOL hBL))
              clear HC1 hb10 h10 hOL hBL HL
              go_wp2_with fail
              refine Calls.mono HC2.out ?_
              rintro e w11 ⟨hb11, hcase⟩
              rcases hcase with ⟨hbad, _⟩ | ⟨_, gS, cS, rfl, hgS, hOS, hBS⟩
              · exact absurd hz2 hbad
              have h11 := H10.out.1.below hb11
              have HC3 := hid (Crash_any (HDk.out w11 h11.bel) (by omega) none 0 0 [] (by omega) ⟨rfl, .inl rfl⟩)
              rw [fL] at HC3
              have H11 := hid (And.intro h11 (And.intro (H10.out.2.1.keep (hb11.block gL H10.out.2.1.lt)) (And.intro H10.out.2.2 (And.intro hOS hBS))))
              clear HC2 hb11 h11 hOS hBS H10
              go_wp2_with fail
              refine Calls.mono HC3.out ?_
              rintro e w12 ⟨hb12, hcase⟩
              rcases hcase with ⟨hbad, _⟩ | ⟨_, gN, cN, rfl, hgN, hON, hBN⟩
              · exact absurd hz3 hbad
              have h12 := H11.out.1.below hb12
              have hON' : Own w12 gN (512 * k) cN img := hON
              have HSB := hid (SameBytes_eq w12.heap.size _ _ _ cN _ cI _ w12 (hON'.rd fB) ((HIm.out w12 h12.bel).rd fB))
              have h12L := H11.out.2.1.keep (hb12.block gL H11.out.2.1.lt)
              have h12S := H11.out.2.2.2.1.keep (hb12.block gS H11.out.2.2.2.1.lt)
              have HOp := hid (Open_ok ⟨gL, 0, none⟩ k cL _ w12 (by omega) (by omega) (h12L.rd H11.out.2.2.1))
              have H12 := hid (And.intro h12 (And.intro h12L (And.intro H11.out.2.2.1 (And.intro h12S H11.out.2.2.2.2))))
              clear HC3 hb12 h12 h12L h12S H11 hON hON' hBN hgN hgS hgL
              go_wp2_with fail
              refine Calls.mono HSB.out ?_
              rintro e w13 ⟨rfl, hw13⟩
              rw [hw13]
              clear HSB hw13
              go_wp2_with fail
              refine Calls.mono HOp.out ?_
              rintro e w14 ⟨po, rfl, hpo, hD14, hb14⟩
              have hb14' := hb14.mono (Nat.le_trans (Nat.le_succ _) H12.out.1.sz)
              have H14 := hid (And.intro (H12.out.1.below hb14) (And.intro (H12.out.2.1.keep (hb14.block gL H12.out.2.1.lt)) (And.intro H12.out.2.2.1 (And.intro (H12.out.2.2.2.1.keep (hb14.block gS H12.out.2.2.2.1.lt)) (And.intro H12.out.2.2.2.2 hD14)))))
              clear HOp hb14 hb14' hD14 H12 hpo
              go_wp2_with fail
              go_loopw [29] (fun i wt => ∃ j : Nat, j ≤ k ∧ i = .int .i64 (j : Int) ∧ Below w14.heap.size w14 wt) (fun i _ => k - (intOf i).toNat)
              case atStart => exact ⟨0, Nat.zero_le _, rfl, Below.refl _ _⟩
              case round =>
                obtain ⟨j, hj, rfl, hbt⟩ := hrel
                have hL := H14.out.1.below hbt
                by_cases hjk : j < k
                · have hsn := flush_seen (x := j) puts img fL HF.out.1
                  have hsl : (seenZ img puts j).length = 512 := by rw [← hsn]; exact length_imgB Hll.out.2 hjk
                  have HR1 := hid (Read_in (HDk.out wr hL.bel) j hjk (by omega) hsl)
                  have hjk' : (j : Int) < (k : Int) := by omega
                  have Hbt := hid hbt
                  have HL := hid hL
                  clear hbt hL
                  go_wp2_with fail
                  refine Calls.mono HR1.out ?_
                  rintro e w15 ⟨g15, c15, rfl, hO15, hb15⟩
                  have h15 := Hbt.out.trans (hb15.mono Hbt.out.size)
                  have hDo := H14.out.2.2.2.2.2.below h15
                  have hll2 : (seenZ (crashZ img puts (sel kf puts.length)) [] j).length = 512 := length_imgB Hll.out.1 hjk
                  have HR2 := hid (Read_in hDo j hjk (by simp) hll2)
                  have H15 := hid (And.intro hO15 h15)
                  clear HR1 hb15 hO15 h15 hDo Hbt HL
                  go_wp2_with fail
                  refine Calls.mono HR2.out ?_
                  rintro e w16 ⟨g16, c16, rfl, hO16, hb16⟩
                  have h16 := H15.out.2.trans (hb16.mono H15.out.2.size)
                  have hL16 := H14.out.1.below h16
                  have o15 := H15.out.1.keep (hb16.block g15 H15.out.1.lt)
                  have oL := H14.out.2.1.keep (h16.block gL H14.out.2.1.lt)
                  have oS := H14.out.2.2.2.1.keep (h16.block gS H14.out.2.2.2.1.lt)
                  have isBl := isB_imgB H14.out.2.2.1 j
                  have isBs := isB_imgB H14.out.2.2.2.2.1 j
                  rw [← hsn] at o15
                  have hO16' : Own w16 g16 512 c16 (imgB (crashZ img puts (sel kf puts.length)) j) := hO16
                  have wS := W5.of_own oS H14.out.2.2.2.2.1 Hll.out.2 hjk
                  have wL := W5.of_own oL H14.out.2.2.1 Hll.out.1 hjk
                  obtain ⟨aw, cw, cW, wW⟩ := hL16.wt.row hjk
                  have HB1 := hid (fun u : World => block_any gS 0 (512 * k) cS j u (by omega) (by omega) oS.cap)
                  have HB2 := hid (fun u : World => block_any gL 0 (512 * k) cL j u (by omega) (by omega) oL.cap)
                  have HS1 := hid (fun c1 c2 => SameBytes_eq w16.heap.size (some ⟨g15, 0, none⟩) (some ⟨gS, 512 * j, none⟩) 512 c1 512 c2 _ w16 (o15.rd isBs) wS.rd)
                  have HS2 := hid (fun c1 c2 => SameBytes_eq w16.heap.size (some ⟨g16, 0, none⟩) aw 512 c1 512 c2 _ w16 (hO16'.rd isBl) wW.rd)
                  have HS3 := hid (fun c1 c2 => SameBytes_eq w16.heap.size (some ⟨g16, 0, none⟩) (some ⟨gL, 512 * j, none⟩) 512 c1 512 c2 _ w16 (hO16'.rd isBl) wL.rd)
                  have H16 := hid h16
                  clear HR2 hb16 hO16 h16 hL16 o15 oL oS isBl isBs hO16' wS wL wW hsn H15 hll2 hsl
                  go_wp2_with fail
                  refine Calls.mono (HB1.out w16) ?_
                  rintro e w17 ⟨rfl, hw17⟩
                  rw [hw17, Nat.zero_add]
                  clear HB1 hw17
                  go_wp2_with fail
                  refine Calls.mono (HS1.out _ _) ?_
                  rintro e w18 ⟨rfl, hw18⟩
                  rw [hw18]
                  clear HS1 hw18
                  go_wp2_with fail
                  refine Calls.mono (HS2.out _ _) ?_
                  rintro e w19 ⟨rfl, hw19⟩
                  rw [hw19]
                  clear HS2 hw19
                  go_wp2_with fail
                  refine Calls.mono (HB2.out w16) ?_
                  rintro e w20 ⟨rfl, hw20⟩
                  rw [hw20, Nat.zero_add]
                  clear HB2 hw20
                  go_wp2_with fail
                  refine Calls.mono (HS3.out _ _) ?_
                  rintro e w21 ⟨rfl, hw21⟩
                  rw [hw21]
                  clear HS3 hw21
                  go_wp2_with fail
                  go_roundw
                  case rel => exact ⟨j + 1, by omega, by go_num, H16.out⟩
                  case measure => simp [intOf]; omega
                · have HI1 := hid (Image_any (HDk.out wr hL.bel))
                  rw [fL] at HI1
                  have HL := hid hL
                  have hjk' : ¬ (j : Int) < (k : Int) := by omega
                  clear hL hbt H14
                  go_wp2_with fail
                  refine Calls.mono HI1.out ?_
                  rintro e w15 ⟨g15, c15, rfl, hg15, hO15, hb15⟩
                  have hL15 := HL.out.below hb15
                  have HP1 := hid (Pending_any (HDk.out w15 hL15.bel) (by omega))
                  have H15 := hid (And.intro hO15 hL15)
                  clear HI1 hO15 hb15 hL15 hg15 HL
                  go_wp2_with fail
                  refine Calls.mono HP1.out ?_
                  rintro e w16 ⟨g16, rfl, hg16, hO16, hb16⟩
                  have hL16 := H15.out.2.below hb16
                  have HOn := hid (On_any (HDk.out w16 hL16.bel))
                  have H16 := hid (And.intro (H15.out.1.keep (hb16.block g15 H15.out.1.lt)) (And.intro hO16 hL16))
                  clear HP1 hO16 hb16 hL16 hg16 H15
                  go_wp2_with fail
                  refine Calls.mono HOn.out ?_
                  rintro e w17 ⟨rfl, hb17⟩
                  have hL17 := H16.out.2.2.below hb17
                  have o17 := H16.out.1.keep (hb17.block g15 H16.out.1.lt)
                  have p17 := H16.out.2.1.of_block (hb17.block g16 H16.out.2.1.lt)
                  have HSB := hid (SameBytes_eq w17.heap.size _ _ _ cI _ c15 _ w17 ((HIm.out w17 hL17.bel).rd fB) (o17.rd fB))
                  have ri1 := RdI.of_blk (HAt.out w17 hL17.bel).1 (HAt.out w17 hL17.bel).2
                  have ri2 := RdI.of_blk p17 p17.lt
                  rw [List.length_map] at ri1 ri2
                  have HSI := hid (SameInts_eq w17.heap.size _ _ _ puts.length puts.length _ w17 (Nat.le_refl _) (by omega) ri1 ri2)
                  have H17 := hid hL17
                  clear HOn hb17 hL17 o17 p17 ri1 ri2 H16
                  go_wp2_with fail
                  refine Calls.mono HSB.out ?_
                  rintro e w18 ⟨rfl, hw18⟩
                  rw [hw18]
                  clear HSB hw18
                  go_wp2_with fail
                  refine Calls.mono HSI.out ?_
                  rintro e w19 ⟨rfl, hb19⟩
                  have h19 := H17.out.bel.trans (hb19.mono (Nat.le_trans (Nat.le_succ _) H17.out.sz))
                  have H19 := hid (H3.out.2.2.2.1.trans (h19.mono (by omega)))
                  clear HSI hb19 h19 H17
                  go_wp2
                  go_ret
                  exact ⟨rfl, H19.out⟩

end Go.Proofs.Ytilpjgonkmkhmaa
