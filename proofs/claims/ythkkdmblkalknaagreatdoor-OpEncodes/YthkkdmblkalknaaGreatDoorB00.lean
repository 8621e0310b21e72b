import Derived.Test.YthkkdmblkalknaaGreatDoorA13
import Derived.Test.YthkkdmblkalknaaGreatDoorA11
import Derived.Test.YthkkdmblkalknaaGreatDoorA03
import Derived.Deep.RegionWith
import Derived.Test.YthkkdmblkalknaaGreatDoorA01
/-
  Operations of one's own: a field of one is stored, a byte of its data.
-/
namespace Go.Proofs.YthkkdmblkalknaaGreatDoor
open Go.RowKit

theorem flatO_set : ∀ (os : List PO) (vs : List Value) (hl : vs.length = os.length) (t : Nat) (ht : t < os.length) (i : Nat) (_ : i < 6) (o' : PO) (u : Value), cells6 o' (vs[t]'(by omega)) = (cells6 os[t] (vs[t]'(by omega))).set i u → flatO (os.set t o') vs = (flatO os vs).set (t * 6 + i) u
  | [], _, _, t, ht, _, _, _, _, _ => by simp at ht
  | _ :: _, [], h, _, _, _, _, _, _, _ => by simp at h
  | p :: os, x :: vs, h, 0, _, i, hi, o', u, he => by
    simp only [List.getElem_cons_zero] at he
    simp only [List.set_cons_zero, flatO, Nat.zero_mul, Nat.zero_add, he]
    rw [List.set_append_left _ _ (by simpa [cells6] using hi)]
  | p :: os, x :: vs, h, t + 1, ht, i, hi, o', u, he => by
    have ih := flatO_set os vs (by simpa using h) t (by simpa using ht) i hi o' u (by simpa using he)
    simp only [List.set_cons_succ, flatO, ih]
    rw [List.set_append_right _ _ (by simp [cells6]; omega), show (t + 1) * 6 + i - (cells6 p x).length = t * 6 + i by simp [cells6]; omega]
theorem flatO_same : ∀ (os : List PO) (vs : List Value) (t : Nat) (ht : t < os.length) (o' : PO), (∀ v, cells6 o' v = cells6 os[t] v) → flatO (os.set t o') vs = flatO os vs
  | [], _, _, h, _, _ => by simp at h
  | _ :: _, [], t, _, _, _ => by cases t <;> simp [flatO]
  | p :: os, x :: vs, 0, _, o', h => by simpa [flatO] using h x
  | p :: os, x :: vs, t + 1, ht, o', h => by
    simp only [List.set_cons_succ, flatO]
    rw [flatO_same os vs t (by simpa using ht) o' (by simpa using h)]
/-- a field is stored -/
theorem OwL.field {B g n cap : Nat} {w : World} {os : List PO} {vs : List Value} (h : OwL B w (.slice (some ⟨g, 0, none⟩) n cap) os vs) (t : Nat) (ht : t < os.length) (i : Nat) (hi : i < 6) (o' : PO) (u : Value) (hc : ∀ v, v = vs[t]'(by have := h.len; omega) → cells6 o' v = (cells6 os[t] v).set i u) (hd : o'.da = os[t].da) : OwL B (w.setCell ⟨g, t * 6 + i, none⟩ u) (.slice (some ⟨g, 0, none⟩) n cap) (os.set t o') vs := by
  have hn : n = os.length := by
    rcases h.row.2 with ⟨e, _⟩ | ⟨g', cap', cur, e, _⟩
    · cases e
    · cases e; rfl
  subst hn
  refine ⟨by rw [List.length_set]; exact h.len, ?_, fun j hj => ?_, h.apart⟩
  · rw [List.length_set, flatO_set os vs h.len t ht i hi o' u (hc _ rfl)]
    exact (World.ownsRow.stored h.row (t * 6 + i) u).1
  · rw [List.length_set] at hj
    have k := (h.dat j hj).keep (w' := w.setCell ⟨g, t * 6 + i, none⟩ u) fun x hx => Below.heap_setCell _ _ _ _ (fun e => h.ne (h.dat j hj) hx (by simp [Value.ownBlock]; exact e.symm))
    by_cases e : t = j
    · subst e
      simp only [List.getElem_set_self, hd]
      exact k
    · simp only [List.getElem_set_ne e]
      exact k
/-- a byte of an operation's data is stored -/
theorem OwL.byte {B x m c : Nat} {w : World} {v : Value} {os : List PO} {vs : List Value} (h : OwL B w v os vs) (t : Nat) (ht : t < os.length) (hv : vs[t]'(by have := h.len; omega) = .slice (some ⟨x, 0, none⟩) m c) (j : Nat) (z : Int) : OwL B (w.setCell ⟨x, j, none⟩ (.int .u8 z)) v (os.set t ⟨os[t].k, os[t].nm, os[t].ot, os[t].fr, os[t].to, os[t].da.set j z⟩) vs := by
  have hlen := h.len
  have hd := h.dat t ht
  rw [hv] at hd
  have hm : m = os[t].da.length := by
    rcases hd.2 with ⟨e, _⟩ | ⟨g', cap', cur, e, _⟩
    · cases e
    · cases e; rfl
  subst hm
  have hx : v.ownBlock ≠ some x := h.ne hd (by rfl)
  refine ⟨by rw [List.length_set]; exact h.len, ?_, fun i hi => ?_, h.apart⟩
  · rw [List.length_set, flatO_same os vs t ht ⟨os[t].k, os[t].nm, os[t].ot, os[t].fr, os[t].to, os[t].da.set j z⟩ (fun v => rfl)]
    exact own_keep h.row fun g hg => Below.heap_setCell _ _ _ _ (fun e => hx (by rw [hg, e]))
  · rw [List.length_set] at hi
    by_cases e : t = i
    · subst e
      simp only [List.getElem_set_self]
      rw [hv]
      have k := (World.ownsRow.stored hd j (.int .u8 z)).1
      unfold Ow
      rw [List.length_set, List.map_set]
      exact k
    · simp only [List.getElem_set_ne e]
      refine (h.dat i hi).keep fun y hy => Below.heap_setCell _ _ _ _ (fun e2 => ?_)
      have hb : y = x := e2
      subst hb
      rcases Nat.lt_or_gt_of_ne e with q | q
      · exact h.apart t i q (by omega) y (by rw [hv]; rfl) hy
      · exact h.apart i t q (by omega) y hy (by rw [hv]; rfl)
/-- the cells of an operation in the list -/
theorem OwL.at {B g n cap : Nat} {w : World} {os : List PO} {vs : List Value} (h : OwL B w (.slice (some ⟨g, 0, none⟩) n cap) os vs) (t : Nat) (ht : t < os.length) (i : Nat) (hi : i < 6) (u : Value) (hu : (cells6 os[t] (vs[t]'(by have := h.len; omega)))[i]? = some u) : w.cell? ⟨g, t * 6 + i, none⟩ = some u := by
  have := World.ownsRow.cells (g := g) h.row rfl (t * 6 + i) u (by rw [flatO_at os vs h.len t ht i hi]; exact hu)
  rw [Addr.add_lit, Nat.zero_add] at this
  exact this
theorem OwL.unfrozen {B g n cap : Nat} {w : World} {os : List PO} {vs : List Value} (h : OwL B w (.slice (some ⟨g, 0, none⟩) n cap) os vs) (i : Nat) : w.frozen? ⟨g, i, none⟩ = false := by
  obtain ⟨_, _, cur, hh⟩ := own_blk h.row (g := g) rfl
  simp [World.frozen?, hh]

end Go.Proofs.YthkkdmblkalknaaGreatDoor
/-
  Turned: as many operations, a little other ones.
-/
namespace Go.Proofs.YthkkdmblkalknaaGreatDoor
open Go.RowKit

theorem bits_bd (x y : Int) : -9223372036854775808 ≤ bits .xor .i64 x y ∧ bits .xor .i64 x y ≤ 9223372036854775807 := by
  unfold bits
  split <;> (simp [IntKind.wrap, IntKind.signed, IntKind.bits]; (try split) <;> omega)
/-- another that is as large -/
structure Twin (o o' : PO) : Prop where
  ok : okO o → okO o'
  b : Pl.isB o.da → Pl.isB o'.da
  s : o'.nm.size + o'.ot.size = o.nm.size + o.ot.size
  d : o'.da.length = o.da.length
theorem Twin.refl (o : PO) : Twin o o := ⟨id, id, rfl, rfl⟩
theorem Twin.trans {a b c : PO} (h : Twin a b) (k : Twin b c) : Twin a c := ⟨fun q => k.ok (h.ok q), fun q => k.b (h.b q), k.s.trans h.s, k.d.trans h.d⟩
def Twins (os os' : List PO) : Prop := os'.length = os.length ∧ ∀ i (h : i < os.length) (h' : i < os'.length), Twin os[i] os'[i]
theorem Twins.refl (os : List PO) : Twins os os := ⟨rfl, fun _ _ _ => Twin.refl _⟩
theorem Twins.set {os os' : List PO} (h : Twins os os') (t : Nat) (ht : t < os'.length) (o : PO) (ho : Twin os'[t] o) : Twins os (os'.set t o) := by
  refine ⟨by rw [List.length_set]; exact h.1, fun i hi hi' => ?_⟩
  rw [List.length_set] at hi'
  by_cases e : t = i
  · subst e
    rw [List.getElem_set_self]
    exact (h.2 t hi hi').trans ho
  · rw [List.getElem_set_ne e]
    exact h.2 i hi hi'
theorem twin_to (o : PO) (z : Int) (hz : -9223372036854775808 ≤ z ∧ z ≤ 9223372036854775807) : Twin o ⟨o.k, o.nm, o.ot, o.fr, z, o.da⟩ := ⟨fun h => ⟨h.k0, h.k1, h.f0, h.f1, hz.1, hz.2, h.nm, h.ot, h.da⟩, id, rfl, rfl⟩
theorem twin_fr (o : PO) (z : Int) (hz : -9223372036854775808 ≤ z ∧ z ≤ 9223372036854775807) : Twin o ⟨o.k, o.nm, o.ot, z, o.to, o.da⟩ := ⟨fun h => ⟨h.k0, h.k1, hz.1, hz.2, h.t0, h.t1, h.nm, h.ot, h.da⟩, id, rfl, rfl⟩
theorem twin_sw (o : PO) : Twin o ⟨o.k, o.ot, o.nm, o.fr, o.to, o.da⟩ := ⟨fun h => ⟨h.k0, h.k1, h.f0, h.f1, h.t0, h.t1, h.ot, h.nm, h.da⟩, id, Nat.add_comm _ _, rfl⟩
theorem twin_da (o : PO) (j : Nat) (z : Int) (hz : Pl.isB o.da → 0 ≤ z ∧ z < 256) : Twin o ⟨o.k, o.nm, o.ot, o.fr, o.to, o.da.set j z⟩ := ⟨fun h => ⟨h.k0, h.k1, h.f0, h.f1, h.t0, h.t1, h.nm, h.ot, by simpa using h.da⟩, fun h => isB_set h j (hz h), rfl, by simp⟩
/-- within Turned -/
structure TnS (g cap n : Nat) (os : List PO) (w wr : World) (os' : List PO) (vs : List Value) : Prop where
  ow : OwL w.heap.size wr (.slice (some ⟨g, 0, none⟩) n cap) os' vs
  tw : Twins os os'
  bel : Below w.heap.size w wr
theorem TnS.below {g cap n : Nat} {os : List PO} {w wr : World} {os' : List PO} {vs : List Value} (h : TnS g cap n os w wr os' vs) {X : Nat → Prop} {W : World} (hb : But X wr W) (hX : ∀ x, x < w.heap.size → ¬ X x) : Below w.heap.size w W := h.bel.trans (hb.below h.bel.size hX)
theorem TnS.drew {g cap n : Nat} {os : List PO} {w wr : World} {os' : List PO} {vs : List Value} (h : TnS g cap n os w wr os' vs) : TnS g cap n os w wr.drew os' vs := ⟨h.ow.keep fun _ _ _ => rfl, h.tw, h.bel.trans (below_drew _ _)⟩
theorem TnS.gb {g cap n : Nat} {os : List PO} {w wr : World} {os' : List PO} {vs : List Value} (h : TnS g cap n os w wr os' vs) : w.heap.size ≤ g := (own_blk h.ow.row (g := g) rfl).1
theorem TnS.field {g cap n : Nat} {os : List PO} {w wr : World} {os' : List PO} {vs : List Value} (h : TnS g cap n os w wr os' vs) (t : Nat) (ht : t < os'.length) (i : Nat) (hi : i < 6) (o' : PO) (u : Value) (hc : ∀ v, cells6 o' v = (cells6 os'[t] v).set i u) (hd : o'.da = os'[t].da) (ho : Twin os'[t] o') : TnS g cap n os w (wr.setCell ⟨g, t * 6 + i, none⟩ u) (os'.set t o') vs := by
  have hg := h.gb
  exact ⟨h.ow.field t ht i hi o' u (fun v _ => hc v) hd, h.tw.set t ht o' ho, h.below (but_set wr g (t * 6 + i) u) (fun x hx e => by omega)⟩
theorem TnS.byte {g cap n : Nat} {os : List PO} {w wr : World} {os' : List PO} {vs : List Value} (h : TnS g cap n os w wr os' vs) (t : Nat) (ht : t < os'.length) {x m c : Nat} (hv : vs[t]'(by have := h.ow.len; omega) = .slice (some ⟨x, 0, none⟩) m c) (j : Nat) (z : Int) (hz : Pl.isB os'[t].da → 0 ≤ z ∧ z < 256) : TnS g cap n os w (wr.setCell ⟨x, j, none⟩ (.int .u8 z)) (os'.set t ⟨os'[t].k, os'[t].nm, os'[t].ot, os'[t].fr, os'[t].to, os'[t].da.set j z⟩) vs := by
  have hx : w.heap.size ≤ x := (h.ow.dat t ht).base x (by rw [hv]; rfl)
  exact ⟨h.ow.byte t ht hv j z, h.tw.set t ht _ (twin_da _ j z hz), h.below (but_set wr x j _) (fun y hy e => by omega)⟩

end Go.Proofs.YthkkdmblkalknaaGreatDoor
/-
  Turned: its walk.
-/
namespace Go.Proofs.YthkkdmblkalknaaGreatDoor
open Go.RowKit

theorem OwL.num {B : Nat} {w : World} {a : Option Addr} {n c : Nat} {os : List PO} {vs : List Value} (h : OwL B w (.slice a n c) os vs) : n = os.length ∧ (0 < n → ∃ g, a = some ⟨g, 0, none⟩) ∧ n ≤ c := by
  rcases h.row.2 with ⟨e, q⟩ | ⟨g', cap', cur, e, _, _, hc, _⟩
  · cases e; exact ⟨q.symm, fun h => by omega, Nat.le_refl _⟩
  · cases e; exact ⟨rfl, fun _ => ⟨g', rfl⟩, hc⟩
theorem Ow.last {B : Nat} {w : World} {a : Option Addr} {n c : Nat} {zs : List Int} (h : Ow B w (.slice a n c) zs) (hn : 0 < n) : n = zs.length ∧ (n ≤ c ∧ c ≤ maxLen) ∧ ∃ x, a = some ⟨x, 0, none⟩ ∧ w.cell? ⟨x, n - 1, none⟩ = some (.int .u8 (zs.getD (n - 1) 0)) ∧ w.frozen? ⟨x, n - 1, none⟩ = false := by
  have hc := fun g => World.ownsRow.cells (g := g) h
  rcases h.2 with ⟨e, q⟩ | ⟨g', cap', cur, e, _, hh, hcp, hmx, _⟩
  · cases e; omega
  · cases e
    refine ⟨rfl, ⟨hcp, hmx⟩, g', rfl, ?_, by simp [World.frozen?, hh]⟩
    have := hc g' rfl (zs.length - 1) (.int .u8 (zs.getD (zs.length - 1) 0)) (by simp [show zs.length - 1 < zs.length by omega])
    rw [Addr.add_lit, Nat.zero_add] at this
    exact this
theorem wrapEq64 (x : Int) : IntKind.i64.wrap x = wrap64 x := by rw [IntKind.wrap_i64]; unfold wrap64; omega
/-- what an arm leaves: the data as they were -/
def TnA (g cap n : Nat) (os : List PO) (w W : World) (r : Nat) (da : List Int) (vs : List Value) : Prop := ∃ os2, TnS g cap n os w W os2 vs ∧ ∃ h : r < os2.length, os2[r].da = da
theorem TnS.arm0 {g cap n : Nat} {os : List PO} {w wr : World} {os' : List PO} {vs : List Value} (h : TnS g cap n os w wr os' vs) (r : Nat) (hr : r < os'.length) : TnA g cap n os w (wr.setCell ⟨g, r * 6 + 4, none⟩ (.int .i64 (bits .xor .i64 os'[r].to 1))) r os'[r].da vs :=
  ⟨_, h.field r hr 4 (by omega) ⟨os'[r].k, os'[r].nm, os'[r].ot, os'[r].fr, bits .xor .i64 os'[r].to 1, os'[r].da⟩ _ (fun v => rfl) rfl (twin_to _ _ (bits_bd _ _)), by simpa using hr, by simp⟩
theorem TnS.arm1 {g cap n : Nat} {os : List PO} {w wr : World} {os' : List PO} {vs : List Value} (h : TnS g cap n os w wr os' vs) (r : Nat) (hr : r < os'.length) : TnA g cap n os w (wr.setCell ⟨g, r * 6 + 3, none⟩ (.int .i64 (bits .xor .i64 os'[r].fr 1))) r os'[r].da vs :=
  ⟨_, h.field r hr 3 (by omega) ⟨os'[r].k, os'[r].nm, os'[r].ot, bits .xor .i64 os'[r].fr 1, os'[r].to, os'[r].da⟩ _ (fun v => rfl) rfl (twin_fr _ _ (bits_bd _ _)), by simpa using hr, by simp⟩
theorem TnS.arm2 {g cap n : Nat} {os : List PO} {w wr : World} {os' : List PO} {vs : List Value} (h : TnS g cap n os w wr os' vs) (r : Nat) (hr : r < os'.length) : TnA g cap n os w ((wr.setCell ⟨g, r * 6 + 1, none⟩ (.string os'[r].ot)).setCell ⟨g, r * 6 + 2, none⟩ (.string os'[r].nm)).drew r os'[r].da vs := by
  have hg := h.gb
  have k1 := h.ow.field r hr 1 (by omega) ⟨os'[r].k, os'[r].ot, os'[r].ot, os'[r].fr, os'[r].to, os'[r].da⟩ (.string os'[r].ot) (fun v _ => rfl) rfl
  have k2 := k1.field r (by simpa using hr) 2 (by omega) ⟨os'[r].k, os'[r].ot, os'[r].nm, os'[r].fr, os'[r].to, os'[r].da⟩ (.string os'[r].nm) (fun v _ => by simp [cells6]) (by simp)
  rw [List.set_set] at k2
  have e1 := but_set wr g (r * 6 + 1) (.string os'[r].ot)
  have e2 := but_set (wr.setCell ⟨g, r * 6 + 1, none⟩ (.string os'[r].ot)) g (r * 6 + 2) (.string os'[r].nm)
  have b1 := h.below e1 (fun x hx e => by omega)
  exact ⟨_, ⟨k2.keep fun _ _ _ => rfl, h.tw.set r hr _ (twin_sw _), (b1.trans (e2.below b1.size (fun x hx e => by omega))).trans (below_drew _ _)⟩, by simpa using hr, by simp⟩
theorem TnA.tail {g cap n : Nat} {os : List PO} {w W : World} {r : Nat} {da : List Int} {vs : List Value} (h : TnA g cap n os w W r da vs) (hrv : r < vs.length) {x m c : Nat} (hv : vs[r] = .slice (some ⟨x, 0, none⟩) m c) (j : Nat) : TnA g cap n os w (W.setCell ⟨x, j, none⟩ (.int .u8 (bits .xor .u8 (da.getD j 0) 1))).drew r (da.set j (bits .xor .u8 (da.getD j 0) 1)) vs := by
  obtain ⟨os2, hs, hr, rfl⟩ := h
  exact ⟨_, (hs.byte r hr hv j _ (fun hb => xor_u8_bd (by rw [List.getD_eq_getElem?_getD]; exact Pl.isB_getD hb _) 1 (by decide))).drew, by simpa using hr, by simp⟩
set_option maxRecDepth 100000 in
set_option maxHeartbeats 8000000 in
theorem Turned_any (x : Option Addr) (c : Nat) (os : List PO) (w : World) (hl : os.length ≤ 16777216) (hR : RdO w.heap.size w x os) :
    Calls Tryz.prog 22 #[.slice x os.length c] w fun e w' => ∃ u vs os', e = .returned u ∧ OwL w.heap.size w' u os' vs ∧ Twins os os' ∧ Below w.heap.size w w' := by
  have HC := hid (CopyOps_any x c os w hl hR)
  clear hR
  go_enter Tryz.func22, Tryz.ntmps22
  go_wp2_with fail
  refine HC.out.mono ?_
  rintro e w1 ⟨u, vs0, rfl, hL, hb⟩
  obtain ⟨a, n, cp, rfl⟩ := hL.form
  obtain ⟨rfl, hsome, hncp⟩ := hL.num
  have HL := hid hL
  have HB := hid hb
  have HSM := hid hsome
  clear hL hb HC hsome
  go_wp2_with fail
  go_loopw [4] (fun i wr => ∃ (r : Nat) (os' : List PO) (vs : List Value), r ≤ os.length ∧ i = .int .i64 (r : Int) ∧ OwL w.heap.size wr (.slice a os.length cp) os' vs ∧ Twins os os' ∧ Below w.heap.size w wr) (fun i _ => os.length - (intOf i).toNat)
  case atStart => exact ⟨0, os, vs0, Nat.zero_le _, rfl, HL.out, Twins.refl _, HB.out⟩
  case round =>
    clear HL HB
    obtain ⟨r, os', vs, hr, rfl, hL, hT, hB⟩ := hrel
    by_cases hlt : r < os.length
    · obtain ⟨g, rfl⟩ := HSM.out (by omega)
      have hS : TnS g cp os.length os w wr os' vs := ⟨hL, hT, hB⟩
      have hr' : r < os'.length := by rw [hT.1]; exact hlt
      have hrv : r < vs.length := by rw [hL.len]; exact hr'
      have hr1 : (r : Int) < (os.length : Int) := by omega
      have c1 := hL.at r hr' 1 (by omega) (.string os'[r].nm) rfl
      have c2 := hL.at r hr' 2 (by omega) (.string os'[r].ot) rfl
      have c3 := hL.at r hr' 3 (by omega) (.int .i64 os'[r].fr) rfl
      have c4 := hL.at r hr' 4 (by omega) (.int .i64 os'[r].to) rfl
      have c5 := hL.at r hr' 5 (by omega) (vs[r]'hrv) rfl
      have y1 := hL.unfrozen (r * 6 + 1)
      have y2 := hL.unfrozen (r * 6 + 2)
      have y3 := hL.unfrozen (r * 6 + 3)
      have y4 := hL.unfrozen (r * 6 + 4)
      obtain ⟨da, dc, hdv⟩ := (hL.dat r hr').form
      rw [hdv] at c5
      have hm3 : r % 3 = 0 ∨ r % 3 = 1 ∨ r % 3 = 2 := by omega
      have A0 := hS.arm0 r hr'
      have A1 := hS.arm1 r hr'
      have A2 := hS.arm2 r hr'
      by_cases hd0 : os'[r].da.length = 0
      · rw [hd0] at c5
        clear hS hL hT hB hd0 hdv HSM
        generalize os'[r] = o at *
        rcases hm3 with hm | hm | hm
        · have HA := hid A0
          have ht : (r : Int).tmod 3 = 0 := by rw [Int.tmod_eq_emod_of_nonneg (by omega)]; omega
          clear A0 A1 A2
          go_wp2
          all_goals
            go_roundw
            case rel => obtain ⟨os2, hs, _⟩ := HA.out; exact ⟨r + 1, os2, vs, by omega, by go_num, hs.ow, hs.tw, hs.bel⟩
            case measure => simp [intOf]; omega
        · have HA := hid A1
          have ht : (r : Int).tmod 3 = 1 := by rw [Int.tmod_eq_emod_of_nonneg (by omega)]; omega
          clear A0 A1 A2
          go_wp2
          all_goals
            go_roundw
            case rel => obtain ⟨os2, hs, _⟩ := HA.out; exact ⟨r + 1, os2, vs, by omega, by go_num, hs.ow, hs.tw, hs.bel⟩
            case measure => simp [intOf]; omega
        · have HA := hid A2
          have ht : (r : Int).tmod 3 = 2 := by rw [Int.tmod_eq_emod_of_nonneg (by omega)]; omega
          clear A0 A1 A2
          go_wp2
          go_region
          all_goals go_wp2
          all_goals
            go_roundw
            case rel => obtain ⟨os2, hs, _⟩ := HA.out; exact ⟨r + 1, os2, vs, by omega, by go_num, hs.ow, hs.tw, hs.bel⟩
            case measure => simp [intOf]; omega
      · have hdw := hL.dat r hr'
        rw [hdv] at hdw
        obtain ⟨_, hmc, x, rfl, hz, yz⟩ := hdw.last (by omega)
        have hxg : x ≠ g := fun e => hL.ne (hL.dat r hr') (by rw [hdv]; rfl) (by rw [e]; rfl)
        have hgx : g ≠ x := fun e => hxg e.symm
        have hdq : vs[r]'hrv = .slice (some ⟨x, 0, none⟩) os'[r].da.length dc := hdv
        clear hdv
        generalize hm' : os'[r].da.length = m at *
        clear hS hL hT hB HSM hdw hm'
        unfold maxLen at hmc
        obtain ⟨q, rfl⟩ : ∃ q, m = q + 1 := ⟨m - 1, by omega⟩
        rw [Nat.add_sub_cancel] at hz yz
        have hq1 : wrap64 (q : Int) = q := by unfold wrap64; omega
        have hq2 : IntKind.i64.wrap (q : Int) = q := by rw [wrapEq64]; exact hq1
        generalize os'[r] = o at *
        have hm0 : 0 < (q : Int) + 1 := by omega
        rcases hm3 with hm | hm | hm
        · have HA := hid (A0.tail hrv hdq q)
          have ht : (r : Int).tmod 3 = 0 := by rw [Int.tmod_eq_emod_of_nonneg (by omega)]; omega
          clear A0 A1 A2 hdq
          go_wp2
          all_goals go_region
          all_goals go_wp2
          all_goals
            go_roundw
            case rel => obtain ⟨os2, hs, _⟩ := HA.out; exact ⟨r + 1, os2, vs, by omega, by go_num, hs.ow, hs.tw, hs.bel⟩
            case measure => simp [intOf]; omega
        · have HA := hid (A1.tail hrv hdq q)
          have ht : (r : Int).tmod 3 = 1 := by rw [Int.tmod_eq_emod_of_nonneg (by omega)]; omega
          clear A0 A1 A2 hdq
          go_wp2
          all_goals go_region
          all_goals go_wp2
          all_goals
            go_roundw
            case rel => obtain ⟨os2, hs, _⟩ := HA.out; exact ⟨r + 1, os2, vs, by omega, by go_num, hs.ow, hs.tw, hs.bel⟩
            case measure => simp [intOf]; omega
        · have HA := hid (A2.tail hrv hdq q)
          have ht : (r : Int).tmod 3 = 2 := by rw [Int.tmod_eq_emod_of_nonneg (by omega)]; omega
          clear A0 A1 A2 hdq
          go_wp2
          go_region
          all_goals go_wp2
          all_goals go_region
          all_goals go_wp2
          all_goals
            go_roundw
            case rel => obtain ⟨os2, hs, _⟩ := HA.out; exact ⟨r + 1, os2, vs, by omega, by go_num, hs.ow, hs.tw, hs.bel⟩
            case measure => simp [intOf]; omega
    · have e : r = os.length := by omega
      subst e
      have HF := hid (And.intro hL (And.intro hT hB))
      clear hL hT hB
      go_wp2
      go_ret
      exact ⟨_, vs, os', rfl, HF.out.1, HF.out.2⟩

end Go.Proofs.YthkkdmblkalknaaGreatDoor
/-
  Lend.
-/
namespace Go.Proofs.YthkkdmblkalknaaGreatDoor
open Go.RowKit

theorem But.comp {X Y : Nat → Prop} {a b c : World} (h : But X a b) (k : But Y b c) (hY : ∀ x, x < a.heap.size → Y x → X x) : But X a c :=
  ⟨k.os.trans h.os, k.tape.trans h.tape, k.output.trans h.output, Nat.le_trans h.size k.size, fun i hi hx => (k.block i (Nat.lt_of_lt_of_le hi h.size) (fun hy => hx (hY i hi hy))).trans (h.block i hi hx)⟩

set_option maxRecDepth 100000 in
set_option maxHeartbeats 1000000 in
/-- the buffer is long enough -/
theorem Lend_old (L G M : Nat) (N : Int) (a : Option Addr) (n c : Nat) (ys0 zs : List Int) (w : World) (hn : n ≤ 16777216) (hB0 : Blk .u8 5 w G ys0) (hl0 : ys0.length = M) (hL0 : Lnd w L (.slice (some ⟨G, 0, none⟩) M M) N) (hGL : L ≠ G) (hM : 2 * n + 70 ≤ M) (hM2 : M ≤ 1073741824)
    (hR : RdN (fun x => x = L ∨ x = G) w a n zs) :
    Calls Tryz.prog 60 #[.pointer (some ⟨L, 0, none⟩), .slice a n c] w fun e w' => ∃ (G' M' : Nat) (ys : List Int), e = .returned (.slice (some ⟨G', 0, none⟩) n (2 * n + 70)) ∧ Blk .u8 5 w' G' ys ∧ ys.length = M' ∧ ys.take (2 * n + 70) = lent zs ∧ Lnd w' L (.slice (some ⟨G', 0, none⟩) M' M') n ∧ G' = G ∧ M' = M ∧ But (fun x => x = L ∨ x = G) w w' := by
  obtain ⟨hzl, hzb, hsrc⟩ := hR
  obtain ⟨W, hW⟩ : ∃ W, W = w := ⟨_, rfl⟩
  subst hW
  have hbuf0 := hL0.buf
  have hlt : ¬ ((M : Int) < 2 * (n : Int) + 70) := by omega
  go_enter Tryz.func60, Tryz.ntmps60
  go_wp2
  clear hbuf0 hlt
  go_loopw [5] (fun i wt => ∃ (k : Nat) (ys : List Int), k ≤ n ∧ i = .int .i64 (k : Int) ∧ Blk .u8 5 wt G ys ∧ ys.length = M ∧ ys.take k = (lent zs).take k ∧ Lnd wt L (.slice (some ⟨G, 0, none⟩) M M) N ∧ But (fun x => x = L ∨ x = G) W wt) (fun i _ => n - (intOf i).toNat)
  case atStart => exact ⟨0, ys0, Nat.zero_le _, rfl, hB0, hl0, rfl, hL0, But.refl _ _⟩
  case round =>
    obtain ⟨k, ys, hk, rfl, hB, hyl, htk, hL, hbt⟩ := hrel
    by_cases hkn : k < n
    · obtain ⟨b, off, rfl, hb, hbx, hc⟩ := hsrc.resolve_left (by omega)
      have hcs := (hbt.cell (p := ⟨b, off + k, none⟩) hb hbx).trans (hc k hkn)
      have hbuf := hL.buf
      have hcell := hB.cell k (by omega)
      have hfr := hB.frozen k
      have hk1 : (k : Int) < (n : Int) := by omega
      have hk2 : (k : Int) < (M : Int) := by omega
      have HB := hid (hB.set k (zs.getD k 0))
      have HT := hid (take_set (ys := ys) (k := k) (z := zs.getD k 0) (l := lent zs) (by omega) (by rw [length_lent]; omega) htk (lent_lo (by omega)).symm)
      have HL := hid (hL.setOther (p := ⟨G, k, none⟩) (by exact hGL) (.int .u8 (zs.getD k 0)))
      have Hb := hid (hbt.setCell (p := ⟨G, k, none⟩) (.inr rfl) (.int .u8 (zs.getD k 0)))
      have Hyl := hid hyl
      generalize ys.getD k 0 = old at *
      generalize zs.getD k 0 = z at *
      clear hB htk hL hbt hc hyl hsrc
      go_wp2
      go_region
      all_goals go_wp2
      all_goals
        go_roundw
        case rel => exact ⟨k + 1, _, by omega, by go_num, HB.out.drew, by simpa using Hyl.out, HT.out, HL.out, Hb.out.drew⟩
        case measure => simp [intOf]; omega
    · have e : k = n := by omega
      subst e
      clear hkn hk
      go_wp2
      go_loopw [6] (fun i wt => ∃ (j : Nat) (ys : List Int), k ≤ j ∧ j ≤ 2 * k + 70 ∧ i = .int .i64 (j : Int) ∧ Blk .u8 5 wt G ys ∧ ys.length = M ∧ ys.take j = (lent zs).take j ∧ Lnd wt L (.slice (some ⟨G, 0, none⟩) M M) N ∧ But (fun x => x = L ∨ x = G) W wt) (fun i _ => 2 * k + 70 - (intOf i).toNat)
      case atStart => exact ⟨k, ys, Nat.le_refl _, by omega, rfl, hB, hyl, htk, hL, hbt⟩
      case round =>
        clear hB htk hL hbt hyl ys
        obtain ⟨j, ys, hj1, hj2, rfl, hB, hyl, htk, hL, hbt⟩ := hrel
        by_cases hjn : j < 2 * k + 70
        · have hbuf := hL.buf
          have hcell := hB.cell j (by omega)
          have hfr := hB.frozen j
          have hk2 : (j : Int) < (M : Int) := by omega
          have HB := hid (hB.set j (mk j))
          have HT := hid (take_set (ys := ys) (k := j) (z := mk j) (l := lent zs) (by omega) (by rw [length_lent]; omega) htk (lent_hi (by omega) (by omega)).symm)
          have HL := hid (hL.setOther (p := ⟨G, j, none⟩) (by exact hGL) (.int .u8 (mk j)))
          have Hb := hid (hbt.setCell (p := ⟨G, j, none⟩) (.inr rfl) (.int .u8 (mk j)))
          have Hyl := hid hyl
          generalize ys.getD j 0 = old at *
          clear hB htk hL hbt hyl hsrc
          go_wp2_with fail
          go_region_with (go_at_call 96; refine (mark_any _ j _ (by omega)).mono ?_; rintro e w1 ⟨rfl, rfl⟩)
          all_goals go_wp2
          all_goals
            go_roundw
            case rel => exact ⟨j + 1, _, by omega, by omega, by go_num, HB.out.drew, by simpa using Hyl.out, HT.out, HL.out, Hb.out.drew⟩
            case measure => simp [intOf]; omega
        · have e : j = 2 * k + 70 := by omega
          subst e
          have hbuf := hL.buf
          have hnum := hL.num
          have hfr := hL.frozen 1
          have HB := hid hB
          have HL := hid (hL.setNum k)
          have Hb := hid (hbt.setCell (p := ⟨L, 1, none⟩) (.inl rfl) (.int .i64 (k : Int)))
          have HT : Hid (ys.take (2 * k + 70) = lent zs) := by
            show _ = _
            rw [htk, List.take_of_length_le (by rw [length_lent]; omega)]
          have Hyl := hid hyl
          clear hB hL hbt htk hyl hsrc
          go_wp2
          go_ret
          exact ⟨G, M, ys, rfl, HB.out.setOther (Ne.symm hGL) _, Hyl.out, HT.out, HL.out, rfl, rfl, Hb.out⟩

set_option maxRecDepth 100000 in
set_option maxHeartbeats 1000000 in
/-- a new buffer -/
theorem Lend_new (L : Nat) (a0 : Option Addr) (m0 c0 : Nat) (N : Int) (a : Option Addr) (n c : Nat) (zs : List Int) (w : World) (hn : n ≤ 16777216) (hL0 : Lnd w L (.slice a0 m0 c0) N) (hM : m0 < 2 * n + 70)
    (hR : RdN (fun x => x = L) w a n zs) :
    Calls Tryz.prog 60 #[.pointer (some ⟨L, 0, none⟩), .slice a n c] w fun e w' => ∃ (G' M' : Nat) (ys : List Int), e = .returned (.slice (some ⟨G', 0, none⟩) n (2 * n + 70)) ∧ Blk .u8 5 w' G' ys ∧ ys.length = M' ∧ ys.take (2 * n + 70) = lent zs ∧ Lnd w' L (.slice (some ⟨G', 0, none⟩) M' M') n ∧ G' = w.heap.size ∧ M' = 4 * n + 512 ∧ But (fun x => x = L) w w' := by
  have hmk := make_u8 (4 * n + 512) (by omega)
  have hcast : (((4 * n + 512 : Nat) : Nat) : Int) = 4 * (n : Int) + 512 := by omega
  rw [hcast] at hmk
  have hbuf0 := hL0.buf
  have hfr0 := hL0.frozen 0
  have hlt : ((m0 : Int) < 2 * (n : Int) + 70) := by omega
  have hLs := hL0.lt
  have HL0 := hid ((hL0.setBuf (.slice (some ⟨w.heap.size, 0, none⟩) (4 * n + 512) (4 * n + 512))).alloc (.cells ((zeros (4 * n + 512)).map (Value.int .u8)).toArray 5))
  have HB0 : Hid (Blk .u8 5 ((w.setCell ⟨L, 0, none⟩ (.slice (some ⟨w.heap.size, 0, none⟩) (4 * n + 512) (4 * n + 512))).alloc (.cells ((zeros (4 * n + 512)).map (Value.int .u8)).toArray 5)) w.heap.size (zeros (4 * n + 512))) := by
    have h := Blk.new (k := .u8) (e := 5) (w.setCell ⟨L, 0, none⟩ (.slice (some ⟨w.heap.size, 0, none⟩) (4 * n + 512) (4 * n + 512))) (zeros (4 * n + 512))
    rw [show (w.setCell ⟨L, 0, none⟩ (.slice (some ⟨w.heap.size, 0, none⟩) (4 * n + 512) (4 * n + 512))).heap.size = w.heap.size from by simp [World.setCell]] at h
    exact h
  have Hb0 := hid (((But.refl (fun x => x = L) w).setCell (p := ⟨L, 0, none⟩) rfl (.slice (some ⟨w.heap.size, 0, none⟩) (4 * n + 512) (4 * n + 512))).alloc (.cells ((zeros (4 * n + 512)).map (Value.int .u8)).toArray 5))
  have hl0 := length_zeros (4 * n + 512)
  have HG := hid hLs
  clear hL0
  go_enter Tryz.func60, Tryz.ntmps60
  go_wp2
  have hR1 := hR.but Hb0.out
  have hL0 := HL0.out
  have hB0 := HB0.out
  have hGL : L ≠ w.heap.size := by omega
  have hRY : RdN (fun x => x = L ∨ x = w.heap.size) ((w.setCell ⟨L, 0, none⟩ (.slice (some ⟨w.heap.size, 0, none⟩) (4 * n + 512) (4 * n + 512))).alloc (.cells ((zeros (4 * n + 512)).map (Value.int .u8)).toArray 5)) a n zs := by
    obtain ⟨q1, q2, q3⟩ := hR
    obtain ⟨_, _, r3⟩ := hR1
    refine ⟨q1, q2, ?_⟩
    rcases q3 with q3 | ⟨b, off, rfl, hb, hx, _⟩
    · exact .inl q3
    · rcases r3 with r3 | ⟨b', off', e', hb', hx', hc'⟩
      · exact .inl r3
      · simp at e'
        obtain ⟨rfl, rfl⟩ := e'
        exact .inr ⟨b, off, rfl, hb', by omega, hc'⟩
  clear HL0 HB0 hmk hbuf0 hfr0 hlt hcast hR hR1 HG
  have HW := hid hLs
  generalize ((w.setCell ⟨L, 0, none⟩ (.slice (some ⟨w.heap.size, 0, none⟩) (4 * n + 512) (4 * n + 512))).alloc (.cells ((zeros (4 * n + 512)).map (Value.int .u8)).toArray 5)) = W at *
  generalize zeros (4 * n + 512) = ys0 at *
  obtain ⟨hzl, hzb, hsrc⟩ := hRY
  have hM : 2 * n + 70 ≤ 4 * n + 512 := by omega
  have hM2 : 4 * n + 512 ≤ 1073741824 := by omega
  generalize hGG : w.heap.size = G at *
  generalize hMM : 4 * n + 512 = M at *
  have HGG := hid hGG
  have HMM := hid hMM
  clear hGG hMM
  go_loopw [5] (fun i wt => ∃ (k : Nat) (ys : List Int), k ≤ n ∧ i = .int .i64 (k : Int) ∧ Blk .u8 5 wt G ys ∧ ys.length = M ∧ ys.take k = (lent zs).take k ∧ Lnd wt L (.slice (some ⟨G, 0, none⟩) M M) N ∧ But (fun x => x = L ∨ x = G) W wt) (fun i _ => n - (intOf i).toNat)
  case atStart => exact ⟨0, ys0, Nat.zero_le _, rfl, hB0, hl0, rfl, hL0, But.refl _ _⟩
  case round =>
    obtain ⟨k, ys, hk, rfl, hB, hyl, htk, hL, hbt⟩ := hrel
    by_cases hkn : k < n
    · obtain ⟨b, off, rfl, hb, hbx, hc⟩ := hsrc.resolve_left (by omega)
      have hcs := (hbt.cell (p := ⟨b, off + k, none⟩) hb hbx).trans (hc k hkn)
      have hbuf := hL.buf
      have hcell := hB.cell k (by omega)
      have hfr := hB.frozen k
      have hk1 : (k : Int) < (n : Int) := by omega
      have hk2 : (k : Int) < (M : Int) := by omega
      have HB := hid (hB.set k (zs.getD k 0))
      have HT := hid (take_set (ys := ys) (k := k) (z := zs.getD k 0) (l := lent zs) (by omega) (by rw [length_lent]; omega) htk (lent_lo (by omega)).symm)
      have HL := hid (hL.setOther (p := ⟨G, k, none⟩) (by exact hGL) (.int .u8 (zs.getD k 0)))
      have Hb := hid (hbt.setCell (p := ⟨G, k, none⟩) (.inr rfl) (.int .u8 (zs.getD k 0)))
      have Hyl := hid hyl
      generalize ys.getD k 0 = old at *
      generalize zs.getD k 0 = z at *
      clear hB htk hL hbt hc hyl hsrc
      go_wp2
      go_region
      all_goals go_wp2
      all_goals
        go_roundw
        case rel => exact ⟨k + 1, _, by omega, by go_num, HB.out.drew, by simpa using Hyl.out, HT.out, HL.out, Hb.out.drew⟩
        case measure => simp [intOf]; omega
    · have e : k = n := by omega
      subst e
      clear hkn hk
      go_wp2
      go_loopw [6] (fun i wt => ∃ (j : Nat) (ys : List Int), k ≤ j ∧ j ≤ 2 * k + 70 ∧ i = .int .i64 (j : Int) ∧ Blk .u8 5 wt G ys ∧ ys.length = M ∧ ys.take j = (lent zs).take j ∧ Lnd wt L (.slice (some ⟨G, 0, none⟩) M M) N ∧ But (fun x => x = L ∨ x = G) W wt) (fun i _ => 2 * k + 70 - (intOf i).toNat)
      case atStart => exact ⟨k, ys, Nat.le_refl _, by omega, rfl, hB, hyl, htk, hL, hbt⟩
      case round =>
        clear hB htk hL hbt hyl ys
        obtain ⟨j, ys, hj1, hj2, rfl, hB, hyl, htk, hL, hbt⟩ := hrel
        by_cases hjn : j < 2 * k + 70
        · have hbuf := hL.buf
          have hcell := hB.cell j (by omega)
          have hfr := hB.frozen j
          have hk2 : (j : Int) < (M : Int) := by omega
          have HB := hid (hB.set j (mk j))
          have HT := hid (take_set (ys := ys) (k := j) (z := mk j) (l := lent zs) (by omega) (by rw [length_lent]; omega) htk (lent_hi (by omega) (by omega)).symm)
          have HL := hid (hL.setOther (p := ⟨G, j, none⟩) (by exact hGL) (.int .u8 (mk j)))
          have Hb := hid (hbt.setCell (p := ⟨G, j, none⟩) (.inr rfl) (.int .u8 (mk j)))
          have Hyl := hid hyl
          generalize ys.getD j 0 = old at *
          clear hB htk hL hbt hyl hsrc
          go_wp2_with fail
          go_region_with (go_at_call 96; refine (mark_any _ j _ (by omega)).mono ?_; rintro e w1 ⟨rfl, rfl⟩)
          all_goals go_wp2
          all_goals
            go_roundw
            case rel => exact ⟨j + 1, _, by omega, by omega, by go_num, HB.out.drew, by simpa using Hyl.out, HT.out, HL.out, Hb.out.drew⟩
            case measure => simp [intOf]; omega
        · have e : j = 2 * k + 70 := by omega
          subst e
          have hbuf := hL.buf
          have hnum := hL.num
          have hfr := hL.frozen 1
          have HB := hid hB
          have HL := hid (hL.setNum k)
          have Hb := hid (hbt.setCell (p := ⟨L, 1, none⟩) (.inl rfl) (.int .i64 (k : Int)))
          have HT : Hid (ys.take (2 * k + 70) = lent zs) := by
            show _ = _
            rw [htk, List.take_of_length_le (by rw [length_lent]; omega)]
          have Hyl := hid hyl
          clear hB hL hbt htk hyl hsrc
          go_wp2
          go_ret
          exact ⟨G, M, ys, rfl, HB.out.setOther (Ne.symm hGL) _, Hyl.out, HT.out, HL.out, HGG.out.symm, HMM.out.symm, Hb0.out.comp Hb.out (fun x hx h => h.elim id (fun h => absurd h (by have := HGG.out; omega)))⟩

end Go.Proofs.YthkkdmblkalknaaGreatDoor
/-
  The lender's state, whichever buffer it has: Lend, what is lent, Back.
-/
namespace Go.Proofs.YthkkdmblkalknaaGreatDoor
open Go.RowKit

/-- the lender's own blocks -/
def XL (L : Nat) (bv : Value) (x : Nat) : Prop := x = L ∨ bv.ownBlock = some x
/-- a lender in block L with the buffer bv -/
def LS (w : World) (L : Nat) (bv : Value) : Prop :=
  (∃ N, Lnd w L bv N) ∧ (bv = .slice none 0 0 ∨ ∃ G M ys, bv = .slice (some ⟨G, 0, none⟩) M M ∧ L ≠ G ∧ Blk .u8 5 w G ys ∧ ys.length = M ∧ M ≤ 67109376)
theorem LS.lt {w : World} {L : Nat} {bv : Value} (h : LS w L bv) : L < w.heap.size := by obtain ⟨⟨N, h⟩, _⟩ := h; exact h.lt
theorem LS.but {X : Nat → Prop} {w w' : World} {L : Nat} {bv : Value} (h : LS w L bv) (hb : But X w w') (hx : ∀ x, XL L bv x → ¬ X x) : LS w' L bv := by
  obtain ⟨⟨N, h1⟩, h2⟩ := h
  refine ⟨⟨N, h1.but hb (hx L (.inl rfl))⟩, ?_⟩
  rcases h2 with h2 | ⟨G, M, ys, rfl, h3, h4, h5, h6⟩
  · exact .inl h2
  · exact .inr ⟨G, M, ys, rfl, h3, h4.but hb (hx G (.inr rfl)), h5, h6⟩
/-- a block that the lender has is there -/
theorem LS.there {w : World} {L : Nat} {bv : Value} (h : LS w L bv) {x : Nat} (hx : XL L bv x) : x < w.heap.size := by
  obtain ⟨⟨N, h1⟩, h2⟩ := h
  rcases hx with rfl | hx
  · exact h1.lt
  · rcases h2 with rfl | ⟨G, M, ys, rfl, h3, h4, h5, h6⟩
    · cases hx
    · cases hx; exact h4.lt

/-- what lies in the buffer while zs are lent -/
structure Lent (w : World) (L G M n : Nat) (zs : List Int) : Prop where
  num : Lnd w L (.slice (some ⟨G, 0, none⟩) M M) n
  ne : L ≠ G
  big : 2 * n + 70 ≤ M
  small : M ≤ 67109376
  buf : ∃ ys, Blk .u8 5 w G ys ∧ ys.length = M ∧ ys.take (2 * n + 70) = lent zs

theorem Lend_any (L : Nat) (bv : Value) (a : Option Addr) (n c : Nat) (zs : List Int) (w : World) (hn : n ≤ 16777216) (hS : LS w L bv) (hR : RdN (XL L bv) w a n zs) :
    Calls Tryz.prog 60 #[.pointer (some ⟨L, 0, none⟩), .slice a n c] w fun e w' => ∃ G M, e = .returned (.slice (some ⟨G, 0, none⟩) n (2 * n + 70)) ∧ Lent w' L G M n zs ∧ (bv.ownBlock = some G ∨ w.heap.size ≤ G) ∧ But (XL L bv) w w' := by
  obtain ⟨⟨N, h1⟩, h2⟩ := hS
  rcases h2 with rfl | ⟨G, M, ys, rfl, h3, h4, h5, h6⟩
  · refine (Lend_new L none 0 0 N a n c zs w hn h1 (by omega) (hR.mono (fun x _ h => .inl h))).mono ?_
    rintro e w' ⟨G, M, ys, he, hB, hl, ht, hL, hG, hM, hb⟩
    have := h1.lt
    exact ⟨G, M, he, ⟨hL, by omega, by omega, by omega, ys, hB, hl, ht⟩, .inr (by omega), hb.mono (fun x _ h => .inl h)⟩
  · by_cases hM : M < 2 * n + 70
    · refine (Lend_new L (some ⟨G, 0, none⟩) M M N a n c zs w hn h1 hM (hR.mono (fun x _ h => .inl h))).mono ?_
      rintro e w' ⟨G', M', ys', he, hB, hl, ht, hL, hG, hM', hb⟩
      have := h1.lt
      exact ⟨G', M', he, ⟨hL, by omega, by omega, by omega, ys', hB, hl, ht⟩, .inr (by omega), hb.mono (fun x _ h => .inl h)⟩
    · have hx : ∀ x, (x = L ∨ x = G) → XL L (.slice (some ⟨G, 0, none⟩) M M) x := fun x h => h.imp id (fun h => by rw [h]; rfl)
      refine (Lend_old L G M N a n c ys zs w hn h4 h5 h1 h3 (by omega) (by omega) (hR.mono (fun x _ h => hx x h))).mono ?_
      rintro e w' ⟨G', M', ys', he, hB, hl, ht, hL, rfl, rfl, hb⟩
      exact ⟨G', M', he, ⟨hL, h3, by omega, h6, ys', hB, hl, ht⟩, .inl rfl, hb.mono (fun x _ h => hx x h)⟩

/-- what was lent reads as it was handed in -/
theorem Lent.rd {w : World} {L G M n : Nat} {zs : List Int} (h : Lent w L G M n zs) (hz : zs.length = n) (hb : Pl.isB zs) : Rd w.heap.size w (some ⟨G, 0, none⟩) n zs := by
  obtain ⟨ys, hB, hl, ht⟩ := h.buf
  have := h.big
  refine ⟨hz, hb, .inr ⟨G, 0, rfl, hB.lt, fun t htn => ?_⟩⟩
  have hc := hB.cell t (by omega)
  rw [Nat.zero_add, hc, ← lent_lo (zs := zs) (by omega), ← ht, List.getD_eq_getElem?_getD, List.getD_eq_getElem?_getD, List.getElem?_take_of_lt (by omega)]
theorem Lent.but {X : Nat → Prop} {w w' : World} {L G M n : Nat} {zs : List Int} (h : Lent w L G M n zs) (hb : But X w w') (h1 : ¬ X L) (h2 : ¬ X G) : Lent w' L G M n zs := by
  obtain ⟨ys, hB, hl, ht⟩ := h.buf
  exact ⟨h.num.but hb h1, h.ne, h.big, h.small, ys, hB.but hb h2, hl, ht⟩
theorem Lent.below {w w' : World} {L G M n : Nat} {zs : List Int} (h : Lent w L G M n zs) (hb : Below w.heap.size w w') : Lent w' L G M n zs :=
  h.but (But.of_below (X := fun _ => False) hb) (fun h => h) (fun h => h)

theorem Back_any (L G M : Nat) (a : Option Addr) (n c : Nat) (zs : List Int) (w : World) (hn : n ≤ 16777216) (hS : Lent w L G M n zs) (hR : RdN (fun x => x = L ∨ x = G) w a n zs) :
    Calls Tryz.prog 62 #[.pointer (some ⟨L, 0, none⟩), .slice a n c] w fun e w' => e = .returned (.bool true) ∧ LS w' L (.slice (some ⟨G, 0, none⟩) M M) ∧ But (fun x => x = G) w w' := by
  obtain ⟨ys, hB, hl, ht⟩ := hS.buf
  have hs := hS.small
  refine (Back_ok L G M a n c ys zs w hn hB hl ht hS.num hS.ne hS.big (by omega) hR).mono ?_
  rintro e w' ⟨ys', he, hB', hl', hL', hb⟩
  exact ⟨he, ⟨⟨_, hL'⟩, .inr ⟨G, M, ys', rfl, hS.ne, hB', hl', hs⟩⟩, hb⟩

end Go.Proofs.YthkkdmblkalknaaGreatDoor
