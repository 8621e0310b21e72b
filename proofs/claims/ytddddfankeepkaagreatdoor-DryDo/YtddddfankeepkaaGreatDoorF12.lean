import Derived.Test.YtddddfankeepkaaGreatDoorF11
import Derived.Test.YtddddfankeepkaaGreatDoorF10
import Derived.Lib.Bytealg
import Derived.Laws.Externs
namespace Go.Proofs.YtddddfankeepkaaGreatDoor
open Go.RowKit
def cmpN (a b : ByteArray) : Int := Lib.compareBytes a.data.toList b.data.toList
set_option maxHeartbeats 1000000 in
set_option maxRecDepth 100000 in
theorem cmpS_any (a b : ByteArray) (w : World) : Calls Tryz.prog 133 #[.string a, .string b] w fun e w' => e = .returned (.int .i64 (cmpN a b)) ∧ w' = w := by
 unfold cmpN
 go_enter Tryz.func133, Tryz.ntmps133
 go_wp2
 rw [run_callFunc_extern Tryz.func142 (by kernel_rfl) (by kernel_rfl) (by kernel_rfl) (e := Extern.BytealgCompare.compare) (by kernel_rfl), Lib.run_compareString]
 simp only [Result.andThen]
 rw [Oper.upon_value]
 go_wp2
 go_ret
 exact ⟨rfl, rfl⟩
set_option maxHeartbeats 1000000 in
theorem Compare_any (a b : ByteArray) (w : World) : Calls Tryz.prog 115 #[.string a, .string b] w fun e w' => e = .returned (.int .i64 (cmpN a b)) ∧ w' = w := by
 have H := hid (cmpS_any a b w)
 generalize cmpN a b = r at *
 go_enter Tryz.func115, Tryz.ntmps115
 go_wp2_with fail
 refine Calls.mono H.out ?_
 rintro e w' ⟨rfl, rfl⟩
 go_wp2
 go_ret
 exact ⟨rfl, rfl⟩
set_option maxHeartbeats 1000000 in
theorem byName_any (v : PV) (a : Option Addr) (c : Nat) (nm : ByteArray) (w : World) : Calls Tryz.prog 114 #[volA v a c, .string nm] w fun e w' => LkQ w (cmpN v.nm nm) e w' := by
 have HC := hid (fun u => Compare_any v.nm nm u)
 have HB := hid (below1 w (.cells #[.string v.nm, .int .i64 v.id, .int .i64 v.sz, .int .i64 v.og, .int .i64 v.kd, .bool v.pt, .slice a v.mp.length c] 38))
 generalize cmpN v.nm nm = r at *
 dsimp only [volA]
 go_enter Tryz.func114, Tryz.ntmps114
 go_wp2_with fail
 refine (HC.out _).mono ?_
 rintro e w' ⟨rfl, rfl⟩
 go_wp2
 go_ret
 exact ⟨rfl, HB.out⟩
def layI (vs : List PV) (nm : ByteArray) : Nat := srch (fun h => !decide (cmpN (vs.getD h PV0).nm nm < 0)) vs.length 0 vs.length
theorem layI_le (vs : List PV) (nm : ByteArray) : layI vs nm ≤ vs.length := (srch_le _ _ _ _ (Nat.zero_le _)).2
def BinQ (w : World) (i : Nat) (e : Ending) (w' : World) : Prop := ∃ b : Bool, e = .returned (.tuple #[.int .i64 (i : Int), .bool b]) ∧ Below w.heap.size w w'
set_option maxRecDepth 100000 in
set_option maxHeartbeats 4000000 in
theorem Bin_any (a : Option Addr) (c : Nat) (vs : List PV) (nm : ByteArray) (w : World) (hn : vs.length ≤ 16777216) (hR : RdV w.heap.size w a vs) :
  Calls Tryz.prog 116 #[.slice a vs.length c, .string nm, .func (.func 114) #[] #[]] w fun e w' => BinQ w (layI vs nm) e w' := by
 obtain ⟨q, hq⟩ : ∃ q : Nat → Bool, q = fun h => !decide (cmpN (vs.getD h PV0).nm nm < 0) := ⟨_, rfl⟩
 have hlay : layI vs nm = srch q vs.length 0 vs.length := by unfold layI; rw [hq]
 have hin := layI_le vs nm
 have HL := hid hlay
 have HR := hid hR
 have HQ := hid (fun h => congrFun hq h)
 have HIN := hid hin
 generalize layI vs nm = L at *
 obtain ⟨n, hN⟩ : ∃ n, vs.length = n := ⟨_, rfl⟩
 have HN := hid hN
 have hL' := HL.out
 rw [hN] at hL' hn hin
 have HL2 := hid hL'
 clear hL' HL hR hq hlay
 rw [hN]
 clear hN
 go_enter Tryz.func116, Tryz.ntmps116
 go_wp2_with fail
 go_loopw [9, 10] (fun iv jv wr => ∃ i j d : Nat, iv = .int .i64 (i : Int) ∧ jv = .int .i64 (j : Int) ∧ i ≤ j ∧ j ≤ n ∧ j - i ≤ d ∧ srch q d i j = L ∧ Below w.heap.size w wr) (fun iv jv _ => (intOf jv).toNat - (intOf iv).toNat)
 case atStart => exact ⟨0, n, n, rfl, rfl, Nat.zero_le _, Nat.le_refl _, by omega, HL2.out.symm, Below.refl _ _⟩
 case round =>
  obtain ⟨i, j, d, rfl, rfl, hij, hjn, hd, hs, hb⟩ := hrel
  by_cases hlt : i < j
  ·obtain ⟨d', rfl⟩ : ∃ d', d = d' + 1 := ⟨d - 1, by omega⟩
   rw [srch, if_pos hlt] at hs
   have hl1 : (i : Int) < (j : Int) := by omega
   have hce : (((i + j) / 2 : Nat) : Int) = ((i : Int) + (j : Int)) / 2 := by omega
   have hmv : (i + j) / 2 < vs.length := by have := HN.out; omega
   obtain ⟨b, off, rfl, hbl, hc⟩ := (HR.out.below hb).resolve_left (fun e => by rw [e] at hmv; simp at hmv)
   obtain ⟨xa, xc, ⟨c0, c1, c2, c3, c4, c5, c6⟩, _, _⟩ := hc _ hmv
   have hqm : q ((i + j) / 2) = !decide (cmpN vs[(i + j) / 2].nm nm < 0) := by
    rw [HQ.out, List.getD_eq_getElem?_getD, List.getElem?_eq_getElem hmv]
    rfl
   have HC := hid (byName_any vs[(i + j) / 2] xa xc nm wr)
   obtain ⟨m, hm⟩ : ∃ m, (i + j) / 2 = m := ⟨_, rfl⟩
   have hce2 : ((i : Int) + (j : Int)) / 2 = (m : Int) := by omega
   have hm1 : i ≤ m ∧ m < j := by omega
   simp only [hm] at c0 c1 c2 c3 c4 c5 c6 hs hqm HC hmv
   have hm2 : (m : Int) < (n : Int) := by omega
   have HB := hid hb
   have HS := hid hs
   have HQM := hid hqm
   have HM := hid hm1
   generalize vs[m] = v at *
   generalize cmpN v.nm nm = r at *
   clear hs hb hce hqm hc hm hmv hm1 HQ HR
   dsimp only [volA] at HC
   go_wp2_with fail
   refine HC.out.mono ?_
   rintro e w2 ⟨rfl, hb2⟩
   have HB2 := hid (HB.out.trans (hb2.mono HB.out.size))
   clear hb2 HC HB c0 c1 c2 c3 c4 c5 c6
   by_cases hr : r < 0
   ·have HS2 : Hid (srch q d' (m + 1) j = L) := hid (by have := HS.out; have hp := HQM.out; rw [decide_eq_true hr] at hp; simpa [hp] using this)
    clear HS HQM
    go_wp2
    go_roundw
    case rel => exact ⟨m + 1, j, d', by go_num, rfl, by have := HM.out; omega, by omega, by have := HM.out; omega, HS2.out, HB2.out⟩
    case measure => have := HM.out; simp [intOf]; omega
   ·have HS2 : Hid (srch q d' i m = L) := hid (by have := HS.out; have hp := HQM.out; rw [decide_eq_false hr] at hp; simpa [hp] using this)
    clear HS HQM
    go_wp2
    go_roundw
    case rel => exact ⟨i, m, d', rfl, rfl, by have := HM.out; omega, by have := HM.out; omega, by have := HM.out; omega, HS2.out, HB2.out⟩
    case measure => have := HM.out; simp [intOf]; omega
  ·have hl1 : ¬ (i : Int) < (j : Int) := by omega
   have HS : Hid (i = L) := by
    have : srch q d i j = i := by
     cases d with
     | zero => rfl
     | succ d => rw [srch, if_neg hlt]
    rw [this] at hs
    exact hs
   by_cases hin2 : i < n
   ·have hmv : i < vs.length := by have := HN.out; omega
    obtain ⟨b, off, rfl, hbl, hc⟩ := (HR.out.below hb).resolve_left (fun e => by rw [e] at hmv; simp at hmv)
    obtain ⟨xa, xc, ⟨c0, c1, c2, c3, c4, c5, c6⟩, _, _⟩ := hc _ hmv
    have HC := hid (byName_any vs[i] xa xc nm wr)
    generalize vs[i] = v at *
    generalize cmpN v.nm nm = r at *
    have HB := hid hb
    have hi3 : (i : Int) < (n : Int) := by omega
    clear hs hb HQ HR hc hmv
    dsimp only [volA] at HC
    go_wp2_with fail
    refine HC.out.mono ?_
    rintro e w2 ⟨rfl, hb2⟩
    have HB2 := hid (HB.out.trans (hb2.mono HB.out.size))
    clear hb2 HC HB c0 c1 c2 c3 c4 c5 c6
    go_wp2
    go_ret2
    have e := HS.out
    subst e
    exact ⟨_, rfl, HB2.out⟩
   ·have HB := hid hb
    have hi3 : ¬ (i : Int) < (n : Int) := by omega
    clear hs hb HQ HR
    go_wp2
    go_ret2
    have e := HS.out
    subst e
    exact ⟨_, rfl, HB.out⟩
end Go.Proofs.YtddddfankeepkaaGreatDoor
namespace Go.Proofs.YtddddfankeepkaaGreatDoor
open Go.RowKit
def Ap (us : List Value) : Prop := ∀ (i j : Nat) (hi : i < us.length) (hj : j < us.length) (g : Nat), us[i].ownBlock = some g → us[j].ownBlock = some g → i = j
structure DrV (B : Nat) (w : World) (D : Nat) (x : VW) (u : Value) (us : List Value) (o : OW) (dv : Value) (pn po : Int) : Prop where
 dr : DrB w D x u o dv pn po
 ow : OwV B w u x.vs us
 ap : Ap us
 hD : B ≤ D
theorem DrV.next {B : Nat} {w w' : World} {D : Nat} {x : VW} {u : Value} {us : List Value} {o : OW} {dv : Value} {pn po : Int} (h : DrV B w D x u us o dv pn po) (hb : Below w.heap.size w w') : DrV B w' D x u us o dv pn po :=
 ⟨h.dr.keep (hb.block _ h.dr.lt), h.ow.next hb, h.ap, h.hD⟩
/-! ### what stays: all below B, and the rules -/
def KdOk (w : World) (g : Nat) : Prop := ∃ (cur : Array Value) (t : TypeId) (fr : Nat × Nat), w.heap[g]? = some (.cells cur t fr) ∧ t ≠ 94 ∧ t ≠ 99
structure BelK (B : Nat) (w w' : World) : Prop extends Below B w w' where
 kk : ∀ (b : Nat) (cs : Array Value) (t : TypeId) (fr : Nat × Nat), w.heap[b]? = some (.cells cs t fr) → (t = 94 ∨ t = 99) → w'.heap[b]? = w.heap[b]?
theorem BelK.low {A B : Nat} {w w' : World} (h : Below A w w') (hA : A = w.heap.size) (hB : B ≤ A) : BelK B w w' :=
 ⟨⟨h.os, h.tape, h.output, h.size, fun k hk => h.block k (by omega)⟩, fun b cs t fr hb _ => h.block b (by rw [hA]; exact (Array.getElem?_eq_some_iff.1 hb).1)⟩
theorem BelK.trans {B : Nat} {a b c : World} (h : BelK B a b) (k : BelK B b c) : BelK B a c :=
 ⟨h.toBelow.trans k.toBelow, fun g cs t fr hg ht => (k.kk g cs t fr ((h.kk g cs t fr hg ht).trans hg) ht).trans (h.kk g cs t fr hg ht)⟩
theorem BelK.set {B : Nat} {a w : World} (h : BelK B a w) {p : Addr} (hB : B ≤ p.block) (hk : KdOk w p.block) (z : Value) : BelK B a (w.setCell p z) := by
 refine ⟨h.toBelow.setCell hB z, fun g cs t fr hg ht => ?_⟩
 have e := (h.kk g cs t fr hg ht).trans hg
 have hne : g ≠ p.block := fun q => by
  obtain ⟨c2, t2, f2, h2, n1, n2⟩ := hk
  rw [← q, e] at h2
  simp only [Option.some.injEq, Obj.cells.injEq] at h2
  rcases ht with ht | ht
  ·exact n1 (by rw [← h2.2.1, ht])
  ·exact n2 (by rw [← h2.2.1, ht])
 rw [Below.heap_setCell _ _ _ _ hne]
 exact e.trans hg.symm
theorem BelK.grown {B : Nat} {w w' : World} {r : Option Nat} (h : w.grownBy w' r) (hB : B ≤ w.heap.size) (hr : ∀ g, r = some g → B ≤ g ∧ KdOk w g) : BelK B w w' :=
 ⟨⟨h.os, h.tape, h.output, h.size, fun k hk => h.block k (by omega) (fun e => by have := (hr k e.symm).1; omega)⟩, fun g cs t fr hg ht => h.block g (Array.getElem?_eq_some_iff.1 hg).1 (fun e => by
  obtain ⟨c2, t2, f2, h2, n1, n2⟩ := (hr g e.symm).2
  rw [hg] at h2
  simp only [Option.some.injEq, Obj.cells.injEq] at h2
  rcases ht with ht | ht
  ·exact n1 (by rw [← h2.2.1, ht])
  ·exact n2 (by rw [← h2.2.1, ht]))⟩
theorem BelK.but {B : Nat} {w w' : World} {X : Nat → Prop} (h : But X w w') (hB : B ≤ w.heap.size) (hr : ∀ g, X g → B ≤ g ∧ KdOk w g) : BelK B w w' :=
 ⟨⟨h.os, h.tape, h.output, h.size, fun k hk => h.block k (by omega) (fun e => by have := (hr k e).1; omega)⟩, fun g cs t fr hg ht => h.block g (Array.getElem?_eq_some_iff.1 hg).1 (fun e => by
  obtain ⟨c2, t2, f2, h2, n1, n2⟩ := (hr g e).2
  rw [hg] at h2
  simp only [Option.some.injEq, Obj.cells.injEq] at h2
  rcases ht with ht | ht
  ·exact n1 (by rw [← h2.2.1, ht])
  ·exact n2 (by rw [← h2.2.1, ht]))⟩
theorem KdOk.set {w : World} {g : Nat} (h : KdOk w g) (p : Addr) (z : Value) : KdOk (w.setCell p z) g := by
 obtain ⟨c, t, f, h1, h2, h3⟩ := h
 by_cases e : p.block = g
 ·subst e
  obtain ⟨c', hc'⟩ : ∃ c', (w.setCell p z).heap[p.block]? = some (.cells c' t f) := by simp [World.setCell, Array.getElem?_modify, h1]
  exact ⟨c', t, f, hc', h2, h3⟩
 ·exact ⟨c, t, f, (Below.heap_setCell _ _ _ _ (by exact fun q => e q.symm)).trans h1, h2, h3⟩
theorem KdOk.own {B : Nat} {e : TypeId} {n m : Nat} {w : World} {v : Value} {xs : List Value} (h : w.ownsRow B e n v m xs) {g : Nat} (hg : v.ownBlock = some g) (h1 : e ≠ 94) (h2 : e ≠ 99) : B ≤ g ∧ KdOk w g := by
 obtain ⟨hb, _, cur, hc⟩ := own_blk h hg
 exact ⟨hb, _, _, _, hc, h1, h2⟩
theorem DrV.kd {B : Nat} {w : World} {D : Nat} {x : VW} {u : Value} {us : List Value} {o : OW} {dv : Value} {pn po : Int} (h : DrV B w D x u us o dv pn po) : KdOk w D := ⟨_, _, _, h.dr, by decide, by decide⟩
def DoQ (B : Nat) (w : World) (D : Nat) (x' : VW) (o : OW) (dv : Value) (pn po : Int) (e : Ending) (w' : World) : Prop := e = .returned (.tuple #[]) ∧ (∃ u' us', DrV B w' D x' u' us' o dv pn po) ∧ BelK B w w'
/-! ### blocks -/
theorem row_kind {w : World} {g : Nat} {a b : Array Value} {s t : TypeId} {f f' : Nat × Nat} (h : w.heap[g]? = some (.cells a s f)) (k : w.heap[g]? = some (.cells b t f')) : s = t := by
 rw [h] at k
 simp only [Option.some.injEq, Obj.cells.injEq] at k
 exact k.2.1
theorem OwV.blk {B : Nat} {w : World} {u : Value} {vs : List PV} {us : List Value} (h : OwV B w u vs us) {g : Nat} (hg : u.ownBlock = some g) : B ≤ g ∧ g < w.heap.size ∧ ∃ cur, w.heap[g]? = some (.cells cur 38 (0, 0)) := own_blk h.row hg
theorem OwV.lst {B : Nat} {w : World} {u : Value} {vs : List PV} {us : List Value} (h : OwV B w u vs us) {i : Nat} (hi : i < us.length) {g : Nat} (hg : us[i].ownBlock = some g) : B ≤ g ∧ g < w.heap.size ∧ ∃ cur, w.heap[g]? = some (.cells cur 78 (0, 0)) :=
 own_blk (h.dat i (by rw [← h.len]; exact hi)) hg
theorem DrV.ne {B : Nat} {w : World} {D : Nat} {x : VW} {u : Value} {us : List Value} {o : OW} {dv : Value} {pn po : Int} (h : DrV B w D x u us o dv pn po) : u.ownBlock ≠ some D ∧ ∀ i (hi : i < us.length), us[i].ownBlock ≠ some D := by
 refine ⟨fun e => ?_, fun i hi e => ?_⟩
 ·obtain ⟨_, _, cur, hc⟩ := h.ow.blk e
  exact absurd (row_kind hc h.dr) (by decide)
 ·obtain ⟨_, _, cur, hc⟩ := h.ow.lst hi e
  exact absurd (row_kind hc h.dr) (by decide)
theorem OwV.ne {B : Nat} {w : World} {u : Value} {vs : List PV} {us : List Value} (h : OwV B w u vs us) {g : Nat} (hg : u.ownBlock = some g) {i : Nat} (hi : i < us.length) : us[i].ownBlock ≠ some g := fun e => by
 obtain ⟨_, _, c1, h1⟩ := h.blk hg
 obtain ⟨_, _, c2, h2⟩ := h.lst hi e
 exact absurd (row_kind h1 h2) (by decide)
/-! ### the draft's cells are written -/
theorem DrB.setU {w : World} {D : Nat} {x x' : VW} {u u' : Value} {o : OW} {dv : Value} {pn po : Int} (h : DrB w D x u o dv pn po) (h1 : x'.cp = x.cp) (h2 : x'.fr = x.fr) (h3 : x'.nx = x.nx) : DrB (w.setCell ⟨D, 3, none⟩ u') D x' u' o dv pn po := by
 unfold DrB at *
 rw [h1, h2, h3]
 simp [World.setCell, Array.getElem?_modify, h]
theorem DrB.setN {w : World} {D : Nat} {x x' : VW} {u : Value} {o : OW} {dv : Value} {pn po z : Int} (h : DrB w D x u o dv pn po) (h1 : x'.cp = x.cp) (h2 : x'.fr = x.fr) (h3 : x'.nx = z) : DrB (w.setCell ⟨D, 2, none⟩ (.int .i64 z)) D x' u o dv pn po := by
 unfold DrB at *
 rw [h1, h2, h3]
 simp [World.setCell, Array.getElem?_modify, h]
theorem DrB.setC {w : World} {D : Nat} {x x' : VW} {u : Value} {o : OW} {dv : Value} {pn po z : Int} (h : DrB w D x u o dv pn po) (h1 : x'.cp = z) (h2 : x'.fr = x.fr) (h3 : x'.nx = x.nx) : DrB (w.setCell ⟨D, 0, none⟩ (.int .i64 z)) D x' u o dv pn po := by
 unfold DrB at *
 rw [h1, h2, h3]
 simp [World.setCell, Array.getElem?_modify, h]
theorem own_set {B : Nat} {e : TypeId} {n m : Nat} {w : World} {v : Value} {xs : List Value} (h : w.ownsRow B e n v m xs) {p : Addr} (hp : v.ownBlock ≠ some p.block) (z : Value) : (w.setCell p z).ownsRow B e n v m xs :=
 own_keep h fun g hg => Below.heap_setCell _ _ _ _ (fun e => hp (by rw [hg, e]))
theorem OwV.set {B : Nat} {w : World} {u : Value} {vs : List PV} {us : List Value} (h : OwV B w u vs us) {p : Addr} (hp : u.ownBlock ≠ some p.block) (hq : ∀ i (hi : i < us.length), us[i].ownBlock ≠ some p.block) (z : Value) : OwV B (w.setCell p z) u vs us :=
 ⟨h.len, own_set h.row hp z, fun i hi => own_set (h.dat i hi) (hq i (by rw [h.len]; exact hi)) z⟩
/-! ### a volume more, at its place -/
def layP (vs : List PV) (v : PV) : List PV := vs.take (layI vs v.nm) ++ [v] ++ vs.drop (layI vs v.nm)
theorem flatV_take : ∀ (vs : List PV) (us : List Value), us.length = vs.length → ∀ k, flatV (vs.take k) (us.take k) = (flatV vs us).take (k * 7)
 | [], [], _, k => by simp [flatV]
 | [], _ :: _, h, _ => by simp at h
 | _ :: _, [], h, _ => by simp at h
 | v :: vs, u :: us, h, 0 => by simp [flatV]
 | v :: vs, u :: us, h, k + 1 => by
  have ih := flatV_take vs us (by simpa using h) k
  rw [List.take_succ_cons, List.take_succ_cons, flatV, flatV, ih, show (k + 1) * 7 = (cells7 v u).length + k * 7 by show _ = 7 + _; omega, List.take_length_add_append]
theorem flatV_drop : ∀ (vs : List PV) (us : List Value), us.length = vs.length → ∀ k, flatV (vs.drop k) (us.drop k) = (flatV vs us).drop (k * 7)
 | [], [], _, k => by simp [flatV]
 | [], _ :: _, h, _ => by simp at h
 | _ :: _, [], h, _ => by simp at h
 | v :: vs, u :: us, h, 0 => by simp [flatV]
 | v :: vs, u :: us, h, k + 1 => by
  have ih := flatV_drop vs us (by simpa using h) k
  rw [List.drop_succ_cons, List.drop_succ_cons, ih, flatV, show (k + 1) * 7 = (cells7 v u).length + k * 7 by show _ = 7 + _; omega, List.drop_length_add_append]
theorem flatV_app2 : ∀ (a b : List PV) (us vs : List Value), us.length = a.length → flatV (a ++ b) (us ++ vs) = flatV a us ++ flatV b vs
 | [], b, [], vs, _ => by simp [flatV]
 | [], _, _ :: _, _, h => by simp at h
 | _ :: _, _, [], _, h => by simp at h
 | p :: a, b, u :: us, vs, h => by
  have ih := flatV_app2 a b us vs (by simpa using h)
  simp only [List.cons_append, flatV, ih, List.append_assoc]
theorem flatV_ins (vs : List PV) (us : List Value) (h : us.length = vs.length) (k : Nat) (v : PV) (u : Value) : flatV (vs.take k ++ [v] ++ vs.drop k) (us.take k ++ [u] ++ us.drop k) = (flatV vs us).take (k * 7) ++ cells7 v u ++ (flatV vs us).drop (k * 7) := by
 rw [flatV_app2 _ _ _ _ (by simp [h]), flatV_app2 _ _ _ _ (by simp [h]), flatV_take vs us h, flatV_drop vs us h]
 simp [flatV]
theorem flatV_del (vs : List PV) (us : List Value) (h : us.length = vs.length) (k : Nat) : flatV (vs.eraseIdx k) (us.eraseIdx k) = (flatV vs us).take (k * 7) ++ (flatV vs us).drop (k * 7 + 7) := by
 rw [List.eraseIdx_eq_take_drop_succ, List.eraseIdx_eq_take_drop_succ, flatV_app2 _ _ _ _ (by simp [h]), flatV_take vs us h, flatV_drop vs us h, show (k + 1) * 7 = k * 7 + 7 by omega]
theorem get_ins {α : Type} {us : List α} {k : Nat} {u : α} (hk : k ≤ us.length) (i : Nat) (hi : i < (us.take k ++ [u] ++ us.drop k).length) :
  (i < k ∧ ∃ h : i < us.length, (us.take k ++ [u] ++ us.drop k)[i] = us[i]) ∨ (i = k ∧ (us.take k ++ [u] ++ us.drop k)[i] = u) ∨ (k < i ∧ ∃ h : i - 1 < us.length, (us.take k ++ [u] ++ us.drop k)[i] = us[i - 1]) := by
 have hl : (us.take k).length = k := by simp; omega
 have hl2 : (us.take k ++ [u] ++ us.drop k).length = us.length + 1 := by simp; omega
 rcases Nat.lt_trichotomy i k with h | h | h
 ·refine .inl ⟨h, by omega, ?_⟩
  rw [List.getElem_append_left (by simp; omega), List.getElem_append_left (by omega), List.getElem_take]
 ·refine .inr (.inl ⟨h, ?_⟩)
  subst h
  rw [List.getElem_append_left (by simp; omega), List.getElem_append_right (by omega)]
  simp
 ·refine .inr (.inr ⟨h, by omega, ?_⟩)
  rw [List.getElem_append_right (by simp; omega), List.getElem_drop]
  congr 1
  simp
  omega
theorem Ap.ins {us : List Value} (h : Ap us) {k : Nat} (hk : k ≤ us.length) {u : Value} (hu : ∀ i (hi : i < us.length) g, us[i].ownBlock = some g → u.ownBlock ≠ some g) : Ap (us.take k ++ [u] ++ us.drop k) := by
 intro i j hi hj g h1 h2
 rcases get_ins hk i hi with ⟨a1, a2, a3⟩ | ⟨a1, a3⟩ | ⟨a1, a2, a3⟩ <;> rcases get_ins hk j hj with ⟨b1, b2, b3⟩ | ⟨b1, b3⟩ | ⟨b1, b2, b3⟩ <;> rw [a3] at h1 <;> rw [b3] at h2
 ·exact h i j a2 b2 g h1 h2
 ·exact absurd h2 (hu _ a2 g h1)
 ·have := h i (j - 1) a2 b2 g h1 h2
  omega
 ·exact absurd h1 (hu _ b2 g h2)
 ·omega
 ·exact absurd h1 (hu _ b2 g h2)
 ·have := h (i - 1) j a2 b2 g h1 h2
  omega
 ·exact absurd h2 (hu _ a2 g h1)
 ·have := h (i - 1) (j - 1) a2 b2 g h1 h2
  omega
theorem Ap.set {us : List Value} (h : Ap us) (k : Nat) {u : Value} (hu : ∀ i (hi : i < us.length) g, i ≠ k → us[i].ownBlock = some g → u.ownBlock ≠ some g) : Ap (us.set k u) := by
 intro i j hi hj g h1 h2
 rw [List.getElem_set] at h1 h2
 rw [List.length_set] at hi hj
 by_cases e1 : k = i
 ·by_cases e2 : k = j
  ·omega
  ·rw [if_pos e1] at h1
   rw [if_neg e2] at h2
   exact absurd h1 (hu j hj g (by omega) h2)
 ·rw [if_neg e1] at h1
  by_cases e2 : k = j
  ·rw [if_pos e2] at h2
   exact absurd h2 (hu i hi g (by omega) h1)
  ·rw [if_neg e2] at h2
   exact h i j hi hj g h1 h2
theorem Ap.erase {us : List Value} (h : Ap us) (k : Nat) : Ap (us.eraseIdx k) := by
 intro i j hi hj g h1 h2
 rw [List.getElem_eraseIdx] at h1 h2
 have hl := List.length_eraseIdx_le us k
 split at h1 <;> split at h2
 ·exact h _ _ _ _ g h1 h2
 ·have := h _ _ _ _ g h1 h2; omega
 ·have := h _ _ _ _ g h1 h2; omega
 ·have := h _ _ _ _ g h1 h2; omega
theorem OwV.ins {B : Nat} {w w' : World} {u v' : Value} {vs : List PV} {us : List Value} {L : Nat} {v : PV} {uv : Value} (h : OwV B w u vs us) (hL : L ≤ vs.length) (hd : OwR B w uv v.mp) (hr : w'.ownsRow B 38 7 v' (vs.length + 1) ((flatV vs us).take (L * 7) ++ cells7 v uv ++ (flatV vs us).drop (L * 7)))
  (hk : ∀ g, g < w.heap.size → (∃ cur, w.heap[g]? = some (.cells cur 78 (0, 0))) → w'.heap[g]? = w.heap[g]?) : OwV B w' v' (vs.take L ++ [v] ++ vs.drop L) (us.take L ++ [uv] ++ us.drop L) := by
 have keep : ∀ {z : Value} {rs : List Rg}, OwR B w z rs → OwR B w' z rs := fun {z rs} hz => own_keep hz fun g hg => hk g (own_blk hz hg).2.1 (own_blk hz hg).2.2
 have hl := h.len
 refine ⟨by simp; omega, ?_, fun i hi => ?_⟩
 ·rw [flatV_ins vs us hl, show (vs.take L ++ [v] ++ vs.drop L).length = vs.length + 1 by simp; omega]
  exact hr
 ·have hi2 : i < (us.take L ++ [uv] ++ us.drop L).length := by simp at hi ⊢; omega
  rcases get_ins hL i hi with ⟨a1, a2, a3⟩ | ⟨a1, a3⟩ | ⟨a1, a2, a3⟩ <;> rcases get_ins (u := uv) (us := us) (by omega : L ≤ us.length) i hi2 with ⟨b1, b2, b3⟩ | ⟨b1, b3⟩ | ⟨b1, b2, b3⟩
  ·rw [a3, b3]; exact keep (h.dat i a2)
  ·omega
  ·omega
  ·omega
  ·rw [a3, b3]; exact keep hd
  ·omega
  ·omega
  ·omega
  ·rw [a3, b3]; exact keep (h.dat (i - 1) a2)
end Go.Proofs.YtddddfankeepkaaGreatDoor
namespace Go.Proofs.YtddddfankeepkaaGreatDoor
open Go.RowKit
theorem own_some {B : Nat} {e : TypeId} {n m : Nat} {w : World} {v : Value} {xs : List Value} (h : w.ownsRow B e n v (m + 1) xs) : ∃ g c, v = .slice (some ⟨g, 0, none⟩) (m + 1) c := by
 rcases own_form h with ⟨_, q⟩ | ⟨g, c, e, _⟩
 ·omega
 ·exact ⟨g, c, e⟩
theorem undrew {w y : World} (h : Below w.drew.heap.size w.drew y) : Below w.heap.size w y := ⟨h.os, h.tape, h.output, h.size, h.block⟩
set_option maxRecDepth 100000 in
set_option maxHeartbeats 8000000 in
theorem lay_any (B D : Nat) (x : VW) (u : Value) (us : List Value) (o : OW) (dv : Value) (pn po : Int) (v : PV) (va : Option Addr) (vc : Nat) (w : World) (H : DrV B w D x u us o dv pn po) (hd : OwR B w (.slice va v.mp.length vc) v.mp) (hap : ∀ i (hi : i < us.length) g, us[i].ownBlock = some g → (Value.slice va v.mp.length vc).ownBlock ≠ some g) (hl : x.vs.length ≤ 16777215) (hB : B ≤ w.heap.size) :
  Calls Tryz.prog 97 #[.pointer (some ⟨D, 0, none⟩), volA v va vc] w fun e w' => DoQ B w D { x with vs := layP x.vs v } o dv pn po e w' := by
 obtain ⟨a, c, rfl, hR, hac⟩ := H.ow.rd
 obtain ⟨P, hP⟩ : ∃ P, P = w.heap.size := ⟨_, rfl⟩
 obtain ⟨W1, hW1⟩ : ∃ W1, W1 = w.alloc (.cells #[.string v.nm, .int .i64 v.id, .int .i64 v.sz, .int .i64 v.og, .int .i64 v.kd, .bool v.pt, .slice va v.mp.length vc] 38) := ⟨_, rfl⟩
 have b1 : Below w.heap.size w W1 := by rw [hW1]; exact below1 _ _
 have hV1 : VoB W1 P v (.slice va v.mp.length vc) := by rw [hW1, hP]; exact heap_new _ _
 have H1 := H.next b1
 have hDP : D < P := by rw [hP]; exact H.dr.lt
 obtain ⟨⟨p0, _, _, _, _, _, _⟩, _⟩ := hV1.cs
 obtain ⟨_, _, _, k3, _⟩ := H1.dr.cs
 have hP1 := hV1.lt
 have hD1 := H1.dr.lt
 have HBin := hid (show Calls Tryz.prog 116 #[.slice a x.vs.length c, .string v.nm, .func (.func 114) #[] #[]] W1.drew fun e w' => BinQ W1.drew (layI x.vs v.nm) e w' from Bin_any a c x.vs v.nm W1.drew (by omega) ((hR.below b1).mono b1.size))
 have HK : Hid (∀ y, Below W1.drew.heap.size W1.drew y → y.cell? ⟨D, 3, none⟩ = some (.slice a x.vs.length c) ∧ y.cell? ⟨P, 0, none⟩ = some (.string v.nm)) := fun y hy => ⟨(hy.cell (by exact hD1)).trans k3, (hy.cell (by exact hP1)).trans p0⟩
 have HR : Hid (∀ w2, Below W1.drew.heap.size W1.drew w2 → DrV B w2 D x (.slice a x.vs.length c) us o dv pn po ∧ VoB w2 P v (.slice va v.mp.length vc) ∧ Below w.heap.size w w2 ∧ OwR B w2 (.slice va v.mp.length vc) v.mp) := fun w2 hy => by
  have hb2 : Below W1.heap.size W1 w2 := undrew hy
  have hb : Below w.heap.size w w2 := b1.trans (hb2.mono b1.size)
  exact ⟨H.next hb, hV1.keep (hb2.block _ hP1), hb, own_next hd hb⟩
 have HI := hid (layI_le x.vs v.nm)
 have HW1 := hid hW1
 have HP := hid hP
 have HX : Hid ({ x with vs := layP x.vs v } = (⟨x.cp, x.fr, x.nx, x.vs.take (layI x.vs v.nm) ++ [v] ++ x.vs.drop (layI x.vs v.nm)⟩ : VW)) := rfl
 rw [HX.out]
 have HAp := hid hap
 have HBB := hid hB
 have HPN : Hid ((Value.slice a x.vs.length c).ownBlock ≠ some P) := hid (fun e => by
  have := (H.ow.blk e).2.1
  omega)
 have hlen := H.ow.len
 generalize layI x.vs v.nm = L at *
 obtain ⟨ln, hn⟩ : ∃ ln, x.vs.length = ln := ⟨_, rfl⟩
 rw [hn] at HBin HK k3 HI hl
 have HN := hid hn
 have HLn := hid hlen
 clear H H1 hR hW1 hP hV1 b1 hn hac hap hd hlen HX
 obtain ⟨nm, hnm⟩ : ∃ nm, v.nm = nm := ⟨_, rfl⟩
 have HNM := hid hnm
 rw [hnm] at p0 HBin HK
 clear hnm
 have mixed : Tryz.prog.follows Departure.mixedOrders = true := by kernel_rfl
 have hR' := HN.out
 dsimp only [volA]
 have HAG : Hid ((Value.slice a x.vs.length c) = Value.slice a ln c) := by rw [hR']; exact rfl
 clear hR'
 go_enter Tryz.func97, Tryz.ntmps97
 go_wp2_with fail
 rw [← HW1.out, ← HP.out]
 refine Gz (S := (fun y => y.cell? ⟨D, 3, none⟩ = some (.slice a ln c) ∧ y.cell? ⟨P, 0, none⟩ = some (.string nm))) ⟨k3, p0⟩ (fun hSS => ?_)
 refine Ti 0 rfl ?_
 refine Ti 1 rfl ?_
 refine Ti 2 rfl ?_
 refine Ti 3 rfl ?_
 try simp only [Act.put, zA, zB, zC]
 refine Ti 4 rfl ?_
 refine Ti 5 rfl ?_
 refine Ti 6 rfl ?_
 refine Ti 7 rfl ?_
 try simp only [Act.put, zA, zB, zC]
 refine Ri 8 rfl (fun K9 hK9 => ?_)
 go_simp
 go_at_call 116
 refine HBin.out.mono ?_
 rintro e w2 ⟨bb, rfl, hb2⟩
 refine hK9.out _ _ (HK.out w2 hb2) (fun hSS => ?_)
 try simp only [Act.put, zA, zB, zC]
 refine Ti 9 rfl ?_
 try simp only [Act.put, zA, zB, zC]
 refine Ti 10 rfl ?_
 refine Ti 11 rfl ?_
 refine Ti 12 rfl ?_
 refine Ti 13 rfl ?_
 try simp only [Act.put, zA, zB, zC]
 refine Dn ?_
 obtain ⟨H2, hV2, hb, hd2⟩ := HR.out w2 hb2
 rw [HAG.out] at H2
 clear HR HBin HK k3 p0 hSS hP1 hD1
 have HH2 := hid H2
 have HV2 := hid hV2
 have HB2 := hid hb
 have HD2 := hid hd2
 obtain ⟨⟨m0, m1, m2, m3, m4, m5, m6⟩, _⟩ := hV2.cs
 obtain ⟨_, _, _, l3, _⟩ := H2.dr.cs
 rw [HNM.out] at m0
 have hP2 := hV2.lt
 have hD2 := H2.dr.lt
 obtain ⟨W3, hW3⟩ : ∃ W3, W3 = (w2.alloc (.cells #[.string nm, .int .i64 v.id, .int .i64 v.sz, .int .i64 v.og, .int .i64 v.kd, .bool v.pt, .slice va v.mp.length vc] 38)).drew := ⟨_, rfl⟩
 have b3 : Below w2.heap.size w2 W3 := by rw [hW3]; exact below_dr (below1 _ _)
 have hN3 : W3.heap[w2.heap.size]? = some (.cells (cells7 v (.slice va v.mp.length vc)).toArray 38 (0, 0)) := by
  rw [hW3, ← HNM.out]
  exact heap_new w2 _
 have H3 := H2.next b3
 have hrow := H3.ow.row
 rw [HN.out] at hrow
 have HIns := hid (InsV_any B ln w2.heap.size L (.slice a ln c) (flatV x.vs us) (cells7 v (.slice va v.mp.length vc)) W3 hrow hN3 (fun e => by have := (H2.ow.blk e).2.1; omega) rfl (by
  intro z hz
  simp only [cells7, List.mem_cons, List.not_mem_nil, or_false] at hz
  rcases hz with rfl | rfl | rfl | rfl | rfl | rfl | rfl <;> rfl) (by
  intro z hz
  obtain ⟨k, hk⟩ := List.getElem?_of_mem hz
  have hk' : k < (flatV x.vs us).length := (List.getElem?_eq_some_iff.1 hk).1
  rw [flatV_len _ _ HLn.out] at hk'
  have hj : k / 7 < x.vs.length := by omega
  have h1 := flatV_at x.vs us HLn.out (k / 7) hj (k % 7) (by omega)
  rw [show k / 7 * 7 + k % 7 = k by omega, hk] at h1
  have hu : (us[k / 7]'(by have := HLn.out; omega)).oneCell' = true := by
   rcases own_form (H2.ow.dat (k / 7) hj) with ⟨e, _⟩ | ⟨_, _, e, _⟩ <;> rw [e] <;> rfl
  rcases (show k % 7 = 0 ∨ k % 7 = 1 ∨ k % 7 = 2 ∨ k % 7 = 3 ∨ k % 7 = 4 ∨ k % 7 = 5 ∨ k % 7 = 6 by omega) with h | h | h | h | h | h | h <;> rw [h] at h1 <;> simp [cells7] at h1 <;> first | (subst h1; rfl) | (rw [h1]; exact hu)) (by have := HI.out; omega) (by omega) (by have := hb.size; have := b3.size; omega))
 have HK3 : Hid (W3.cell? ⟨D, 3, none⟩ = some (.slice a ln c) ∧ W3.cell? ⟨P, 0, none⟩ = some (.string nm) ∧ W3.cell? ⟨P, 1, none⟩ = some (.int .i64 v.id) ∧ W3.cell? ⟨P, 2, none⟩ = some (.int .i64 v.sz) ∧ W3.cell? ⟨P, 3, none⟩ = some (.int .i64 v.og) ∧ W3.cell? ⟨P, 4, none⟩ = some (.int .i64 v.kd) ∧ W3.cell? ⟨P, 5, none⟩ = some (.bool v.pt) ∧ W3.cell? ⟨P, 6, none⟩ = some (.slice va v.mp.length vc)) := ⟨(b3.cell (by exact hD2)).trans l3, (b3.cell (by exact hP2)).trans m0, (b3.cell (by exact hP2)).trans m1, (b3.cell (by exact hP2)).trans m2, (b3.cell (by exact hP2)).trans m3, (b3.cell (by exact hP2)).trans m4, (b3.cell (by exact hP2)).trans m5, (b3.cell (by exact hP2)).trans m6⟩
 have hPk := HPN.out
 rw [HAG.out] at hPk
 have HK4 : Hid (∀ w4, W3.grownBy w4 (Value.slice a ln c).ownBlock → w4.cell? ⟨D, 3, none⟩ = some (.slice a ln c) ∧ w4.cell? ⟨P, 0, none⟩ = some (.string nm) ∧ w4.cell? ⟨P, 1, none⟩ = some (.int .i64 v.id) ∧ w4.cell? ⟨P, 2, none⟩ = some (.int .i64 v.sz) ∧ w4.cell? ⟨P, 3, none⟩ = some (.int .i64 v.og) ∧ w4.cell? ⟨P, 4, none⟩ = some (.int .i64 v.kd) ∧ w4.cell? ⟨P, 5, none⟩ = some (.bool v.pt) ∧ w4.cell? ⟨P, 6, none⟩ = some (.slice va v.mp.length vc)) := fun w4 hg => by
  have hk : ∀ g, g < w2.heap.size → (Value.slice a ln c).ownBlock ≠ some g → ∀ i, w4.cell? ⟨g, i, none⟩ = W3.cell? ⟨g, i, none⟩ := fun g hgl hne i => by
   have := hg.block g (Nat.lt_of_lt_of_le hgl b3.size) (fun e => hne e.symm)
   simp only [World.cell?, this]
  have kD := hk D hD2 H2.ne.1
  have kP := hk P hP2 hPk
  obtain ⟨z0, z1, z2, z3, z4, z5, z6, z7⟩ := HK3.out
  exact ⟨(kD 3).trans z0, (kP 0).trans z1, (kP 1).trans z2, (kP 2).trans z3, (kP 3).trans z4, (kP 4).trans z5, (kP 5).trans z6, (kP 6).trans z7⟩
 have HF : Hid (∀ v' w4 y, w4.ownsRow B 38 7 v' (ln + 1) ((flatV x.vs us).take (L * 7) ++ cells7 v (.slice va v.mp.length vc) ++ (flatV x.vs us).drop (L * 7)) → W3.grownBy w4 (Value.slice a ln c).ownBlock → y = w4.setCell ⟨D, 3, none⟩ v' → (∃ u' us', DrV B y D ⟨x.cp, x.fr, x.nx, x.vs.take L ++ [v] ++ x.vs.drop L⟩ u' us' o dv pn po) ∧ BelK B w y ∧ y.frozen? ⟨D, 3, none⟩ = false) := fun v' w4 y hr hg hy => by
  have hgD : w4.heap[D]? = w2.heap[D]? := (hg.block D (Nat.lt_of_lt_of_le hD2 b3.size) (fun e => H2.ne.1 e.symm)).trans (b3.block D hD2)
  have hdr := H2.dr.keep hgD
  have hy2 : ∀ g, g ≠ D → y.heap[g]? = w4.heap[g]? := fun g hgd => by rw [hy]; exact Below.heap_setCell _ _ _ _ hgd
  have hrow4 : y.ownsRow B 38 7 v' (x.vs.length + 1) ((flatV x.vs us).take (L * 7) ++ cells7 v (.slice va v.mp.length vc) ++ (flatV x.vs us).drop (L * 7)) := by
   rw [HN.out]
   refine own_keep hr fun g hgb => hy2 g (fun e => ?_)
   obtain ⟨_, _, cur, hc⟩ := own_blk hr hgb
   rw [e] at hc
   exact absurd (row_kind hc hdr) (by decide)
  refine ⟨⟨v', us.take L ++ [.slice va v.mp.length vc] ++ us.drop L, by rw [hy]; exact hdr.setU rfl rfl rfl, H2.ow.ins (by have := HI.out; have := HN.out; omega) hd2 hrow4 (fun g hgl ⟨cur, hc⟩ => ?_), H2.ap.ins (by have := HI.out; have := HN.out; have := HLn.out; omega) HAp.out, H2.hD⟩, ?_, ?_⟩
  ·have hgD2 : g ≠ D := fun e => by rw [e] at hc; exact absurd (row_kind hc H2.dr) (by decide)
   rw [hy2 g hgD2, hg.block g (Nat.lt_of_lt_of_le hgl b3.size) (fun e => ?_), b3.block g hgl]
   obtain ⟨_, _, cur', hc'⟩ := H2.ow.blk e.symm
   exact absurd (row_kind hc hc') (by decide)
  ·have hbB : B ≤ w.heap.size := HBB.out
   have h1 : BelK B w W3 := BelK.low (hb.trans (b3.mono hb.size)) rfl hbB
   have h2 : BelK B W3 w4 := BelK.grown hg (Nat.le_trans hbB h1.size) (fun g e => KdOk.own H3.ow.row e (by decide) (by decide))
   rw [hy]
   exact (h1.trans h2).set (p := ⟨D, 3, none⟩) H2.hD ⟨_, _, _, hdr, by decide, by decide⟩ v'
  ·rw [hy]
   simp only [World.frozen?]
   have : (w4.setCell ⟨D, 3, none⟩ v').heap[D]? = some (.cells _ 73 (0, 0)) := hdr.setU (x' := x) (u' := v') rfl rfl rfl
   rw [this]
   simp
 have HFz : Hid (∀ w4, W3.grownBy w4 (Value.slice a ln c).ownBlock → w4.frozen? ⟨D, 3, none⟩ = false) := fun w4 hg => by
  have hgD : w4.heap[D]? = w2.heap[D]? := (hg.block D (Nat.lt_of_lt_of_le hD2 b3.size) (fun e => H2.ne.1 e.symm)).trans (b3.block D hD2)
  exact (H2.dr.keep hgD).fz 3
 have HW3 := hid hW3
 clear H2 hV2 hb hd2 b3 hN3 H3 hrow hW3 hPk hb2
 go_wp2_with fail
 refine wp_region_last (S := (fun y => y.cell? ⟨D, 3, none⟩ = some (.slice a ln c) ∧ y.cell? ⟨P, 0, none⟩ = some (.string nm) ∧ y.cell? ⟨P, 1, none⟩ = some (.int .i64 v.id) ∧ y.cell? ⟨P, 2, none⟩ = some (.int .i64 v.sz) ∧ y.cell? ⟨P, 3, none⟩ = some (.int .i64 v.og) ∧ y.cell? ⟨P, 4, none⟩ = some (.int .i64 v.kd) ∧ y.cell? ⟨P, 5, none⟩ = some (.bool v.pt) ∧ y.cell? ⟨P, 6, none⟩ = some (.slice va v.mp.length vc))) 13 13 (by kernel_rfl) (by kernel_rfl) (by kernel_rfl) ⟨l3, m0, m1, m2, m3, m4, m5, m6⟩ (fun hSS => ?_)
 refine Ti 0 rfl ?_
 try simp only [Act.put, zA, zB, zC]
 refine Ti 1 rfl ?_
 refine Ti 2 rfl ?_
 refine Ti 3 rfl ?_
 refine Ti 4 rfl ?_
 try simp only [Act.put, zA, zB, zC]
 refine Ti 5 rfl ?_
 refine Ti 6 rfl ?_
 refine Ti 7 rfl ?_
 try simp only [Act.put, zA, zB, zC]
 refine Ri 8 rfl (fun K9 hK9 => ?_)
 go_simp
 refine hK9.out _ _ (by have q := HK3.out; rw [HW3.out] at q; exact q) (fun hSS => ?_)
 try simp only [Act.put, zA, zB, zC]
 refine Ri 9 rfl (fun K9 hK9 => ?_)
 go_simp
 go_at_call 117
 rw [← HW3.out]
 refine HIns.out.mono ?_
 rintro e w4 ⟨v', rfl, hq1, hq2⟩
 obtain ⟨g4, c4, rfl⟩ := own_some hq1
 have HF4 := hid (fun y => HF.out _ w4 y hq1 hq2)
 have fz := HFz.out w4 hq2
 have k3 := (HK4.out w4 hq2).1
 refine hK9.out _ _ (HK4.out w4 hq2) (fun hSS => ?_)
 try simp only [Act.put, zA, zB, zC]
 refine Ti 10 rfl ?_
 refine Ti 11 rfl ?_
 try simp only [Act.put, zA, zB, zC]
 refine Ti 12 rfl ?_
 try simp only [Act.put, zA, zB, zC]
 refine Dn ?_
 refine last_step (L := 13) (o := ({ dst := none, op := Op.store 22 (Operand.tmp 31) (Operand.tmp 28), type := 0, pos := _, after := _, guard := none } : Oper)) rfl (fun K9 hK9 => ?_)
 go_simp
 refine hK9.out _ _ ?_
 try simp only [Act.put, zA, zB, zC]
 go_wp2
 go_end0
 obtain ⟨h1, h2, _⟩ := HF4.out _ rfl
 exact ⟨rfl, h1, h2⟩
end Go.Proofs.YtddddfankeepkaaGreatDoor
namespace Go.Proofs.YtddddfankeepkaaGreatDoor
open Go.RowKit
def nmd2 (v : PV) (nm : ByteArray) (id : Int) : PV := ⟨nm, id, v.sz, v.og, v.kd, v.pt, v.mp⟩
def addP (x : VW) (o : OW) (v : PV) : VW := ⟨x.cp, x.fr, wrap64 (x.nx + 1), layP x.vs (nmd2 v o.nm x.nx)⟩
theorem VoB.setNI {w : World} {R : Nat} {v : PV} {u : Value} (h : VoB w R v u) (nm : ByteArray) (id : Int) : VoB ((w.setCell ⟨R, 0, none⟩ (.string nm)).setCell ⟨R, 1, none⟩ (.int .i64 id)) R (nmd2 v nm id) u := by
 unfold VoB nmd2 at *
 simp [World.setCell, Array.getElem?_modify, h, cells7]
set_option maxRecDepth 100000 in
set_option maxHeartbeats 8000000 in
theorem add_any (B D : Nat) (x : VW) (u : Value) (us : List Value) (o : OW) (dv : Value) (pn po : Int) (v : PV) (va : Option Addr) (vc : Nat) (w : World) (H : DrV B w D x u us o dv pn po) (hd : OwR B w (.slice va v.mp.length vc) v.mp) (hap : ∀ i (hi : i < us.length) g, us[i].ownBlock = some g → (Value.slice va v.mp.length vc).ownBlock ≠ some g) (hl : x.vs.length ≤ 16777215) (hB : B ≤ w.heap.size) :
  Calls Tryz.prog 94 #[.pointer (some ⟨D, 0, none⟩), volA v va vc] w fun e w' => DoQ B w D (addP x o v) o dv pn po e w' := by
 obtain ⟨P, hP⟩ : ∃ P, P = w.heap.size := ⟨_, rfl⟩
 obtain ⟨W1, hW1⟩ : ∃ W1, W1 = w.alloc (.cells #[.string v.nm, .int .i64 v.id, .int .i64 v.sz, .int .i64 v.og, .int .i64 v.kd, .bool v.pt, .slice va v.mp.length vc] 38) := ⟨_, rfl⟩
 have b1 : Below w.heap.size w W1 := by rw [hW1]; exact below1 _ _
 have hV1 : VoB W1 P v (.slice va v.mp.length vc) := by rw [hW1, hP]; exact heap_new _ _
 have H1 := H.next b1
 have hDP : D ≠ P := by have := H.dr.lt; omega
 obtain ⟨⟨p0, p1, _, _, _, _, _⟩, pf⟩ := hV1.cs
 have f0 := pf 0
 have f1 := pf 1
 obtain ⟨_, _, k2, _, _, k5, _⟩ := H1.dr.cs
 have HK1 : Hid ((W1.setCell ⟨P, 0, none⟩ (.string o.nm)).cell? ⟨D, 5, none⟩ = some (.string o.nm) ∧ (W1.setCell ⟨P, 0, none⟩ (.string o.nm)).cell? ⟨D, 2, none⟩ = some (.int .i64 x.nx)) := ⟨(World.cell?_setCell_far W1 ⟨P, 0, none⟩ ⟨D, 5, none⟩ _ (Ne.symm hDP)).trans k5, (World.cell?_setCell_far W1 ⟨P, 0, none⟩ ⟨D, 2, none⟩ _ (Ne.symm hDP)).trans k2⟩
 obtain ⟨W2, hW2⟩ : ∃ W2, W2 = ((W1.setCell ⟨P, 0, none⟩ (.string o.nm)).setCell ⟨P, 1, none⟩ (.int .i64 x.nx)).drew := ⟨_, rfl⟩
 have b2 : Below w.heap.size w W2 := by rw [hW2]; exact below_dr ((b1.setCell (p := ⟨P, 0, none⟩) (by rw [hP]; exact Nat.le_refl _) _).setCell (p := ⟨P, 1, none⟩) (by rw [hP]; exact Nat.le_refl _) _)
 have hV2 : VoB W2 P (nmd2 v o.nm x.nx) (.slice va v.mp.length vc) := by rw [hW2]; exact hV1.setNI o.nm x.nx
 have H2 := H.next b2
 obtain ⟨W3, hW3⟩ : ∃ W3, W3 = W2.setCell ⟨D, 2, none⟩ (.int .i64 (wrap64 (x.nx + 1))) := ⟨_, rfl⟩
 have H3 : DrV B W3 D ⟨x.cp, x.fr, wrap64 (x.nx + 1), x.vs⟩ u us o dv pn po := by
  rw [hW3]
  exact ⟨H2.dr.setN rfl rfl rfl, H2.ow.set H2.ne.1 H2.ne.2 _, H2.ap, H2.hD⟩
 have hV3 : VoB W3 P (nmd2 v o.nm x.nx) (.slice va v.mp.length vc) := by rw [hW3]; exact hV2.keep (Below.heap_setCell _ _ _ _ (Ne.symm hDP))
 have hd3 : OwR B W3 (.slice va v.mp.length vc) v.mp := by
  rw [hW3]
  refine own_set (own_next hd b2) (fun e => ?_) _
  obtain ⟨_, _, cur, hc⟩ := own_blk hd e
  exact absurd (row_kind hc H.dr) (by decide)
 have b3 : BelK B w W3 := by
  have q : BelK B w W2 := BelK.low b2 rfl hB
  rw [hW3]
  exact q.set (p := ⟨D, 2, none⟩) H2.hD H2.kd _
 have HL := hid (lay_any B D ⟨x.cp, x.fr, wrap64 (x.nx + 1), x.vs⟩ u us o dv pn po (nmd2 v o.nm x.nx) va vc W3 H3 hd3 hap hl (by have := b3.size; omega))
 obtain ⟨_, _, l2, _⟩ := H2.dr.cs
 have l2f := H2.dr.fz 2
 obtain ⟨⟨m0, m1, m2, m3, m4, m5, m6⟩, _⟩ := hV2.cs
 have hPD : ¬ (P = D) := fun e => hDP e.symm
 have hPD2 : ¬ (D = P) := hDP
 have HX : Hid (({ (⟨x.cp, x.fr, wrap64 (x.nx + 1), x.vs⟩ : VW) with vs := layP x.vs (nmd2 v o.nm x.nx) } : VW) = addP x o v) := rfl
 have HB3 := hid b3
 have HW1 := hid hW1
 have HP := hid hP
 have HW2 := hid hW2
 have HW3 := hid hW3
 dsimp only [nmd2] at m0 m1 m2 m3 m4 m5 m6
 have mixed : Tryz.prog.follows Departure.mixedOrders = true := by kernel_rfl
 clear H H1 H2 H3 hd hd3 hap hl hB hP hW1 hW2 hW3 b1 b2 b3 hV1 hV2 hV3 pf
 dsimp only [volA]
 go_enter Tryz.func94, Tryz.ntmps94
 go_wp2_with fail
 rw [← HW1.out, ← HP.out]
 refine wp_region_last (S := (fun y => y.cell? ⟨D, 5, none⟩ = some (.string o.nm) ∧ y.cell? ⟨D, 2, none⟩ = some (.int .i64 x.nx))) 13 13 (by kernel_rfl) (by kernel_rfl) (by kernel_rfl) ⟨k5, k2⟩ (fun hSS => ?_)
 refine Ti 0 rfl ?_
 refine Ti 1 rfl ?_
 refine Ti 2 rfl ?_
 refine Ti 3 rfl ?_
 try simp only [Act.put, zA, zB, zC]
 refine Ti 4 rfl ?_
 refine Ti 5 rfl ?_
 refine Ti 6 rfl ?_
 refine Ti 7 rfl ?_
 try simp only [Act.put, zA, zB, zC]
 refine Ti 8 rfl ?_
 refine Ti 9 rfl ?_
 refine Ti 10 rfl ?_
 try simp only [Act.put, zA, zB, zC]
 refine Ri 11 rfl (fun K9 hK9 => ?_)
 go_simp
 refine hK9.out _ _ HK1.out (fun hSS => ?_)
 try simp only [Act.put, zA, zB, zC]
 refine Ti 12 rfl ?_
 try simp only [Act.put, zA, zB, zC]
 refine Dn ?_
 refine last_step (L := 13) (o := ({ dst := none, op := Op.store 3 (Operand.tmp 15) (Operand.tmp 13), type := 0, pos := _, after := _, guard := none } : Oper)) rfl (fun K9 hK9 => ?_)
 go_simp
 refine hK9.out _ _ ?_
 try simp only [Act.put, zA, zB, zC]
 rw [← HW2.out]
 go_wp2_with fail
 rw [← HW3.out]
 refine HL.out.mono ?_
 rintro e w5 ⟨rfl, h1, h2⟩
 have HQ : Hid (DoQ B w D (addP x o v) o dv pn po (.returned (.tuple #[])) w5) := ⟨rfl, h1, HB3.out.trans h2⟩
 clear h1 h2 HL
 go_wp2
 go_end0
 exact HQ.out
end Go.Proofs.YtddddfankeepkaaGreatDoor
namespace Go.Proofs.YtddddfankeepkaaGreatDoor
open Go.RowKit
theorem OwV.volc {B : Nat} {w : World} {u : Value} {vs : List PV} {us : List Value} (h : OwV B w u vs us) {k : Nat} (hk : k < vs.length) : ∃ g c a' c', u = .slice (some ⟨g, 0, none⟩) vs.length c ∧ u.ownBlock = some g ∧ us[k]'(by rw [h.len]; exact hk) = .slice a' vs[k].mp.length c' ∧ VolC w g (k * 7) vs[k] a' c' ∧ (a' = none → c' = 0) ∧ ∀ i, w.frozen? ⟨g, i, none⟩ = false := by
 rcases own_form h.row with ⟨_, q⟩ | ⟨g, c, rfl, hg⟩
 ·omega
 ·obtain ⟨a', c', e, _, hn⟩ := (h.dat k hk).rd
  have kk := World.ownsRow.cells h.row hg
  have key : ∀ i, i < 7 → ∀ z, (cells7 vs[k] (us[k]'(by rw [h.len]; exact hk)))[i]? = some z → w.cell? ⟨g, k * 7 + i, none⟩ = some z := fun i hi z hz => by
   have := kk (k * 7 + i) z (by rw [flatV_at vs us h.len k hk i hi]; exact hz)
   rw [Addr.add_lit] at this
   simpa [Nat.add_assoc] using this
  rw [e] at key
  obtain ⟨_, _, cur, hc⟩ := h.blk hg
  exact ⟨g, c, a', c', rfl, hg, e, ⟨key 0 (by omega) _ rfl, key 1 (by omega) _ rfl, key 2 (by omega) _ rfl, key 3 (by omega) _ rfl, key 4 (by omega) _ rfl, key 5 (by omega) _ rfl, key 6 (by omega) _ rfl⟩, hn, fun i => by simp [World.frozen?, hc]⟩
set_option maxRecDepth 100000 in
set_option maxHeartbeats 4000000 in
theorem create_any (B D : Nat) (x : VW) (u : Value) (us : List Value) (o : OW) (dv : Value) (pn po : Int) (w : World) (H : DrV B w D x u us o dv pn po) (hl : x.vs.length ≤ 16777215) (hB : B ≤ w.heap.size) :
  Calls Tryz.prog 60 #[.pointer (some ⟨D, 0, none⟩)] w fun e w' => DoQ B w D (addP x o ⟨ByteArray.empty, 0, o.tt, 0, 0, false, []⟩) o dv pn po e w' := by
 have HA := hid (add_any B D x u us o dv pn po ⟨ByteArray.empty, 0, o.tt, 0, 0, false, []⟩ none 0 w H ⟨rfl, .inl ⟨rfl, rfl⟩⟩ (fun i hi g _ e => by simp [Value.ownBlock] at e) hl hB)
 obtain ⟨_, _, _, _, _, _, _, _, k8, _⟩ := H.dr.cs
 clear H
 dsimp only [volA, List.length_nil] at HA
 go_enter Tryz.func60, Tryz.ntmps60
 go_wp2_with fail
 refine HA.out.mono ?_
 rintro e w4 ⟨rfl, h1, h2⟩
 have HQ : Hid (DoQ B w D (addP x o ⟨ByteArray.empty, 0, o.tt, 0, 0, false, []⟩) o dv pn po (.returned (.tuple #[])) w4) := ⟨rfl, h1, h2⟩
 clear h1 h2 HA
 go_wp2
 go_end0
 exact HQ.out
set_option maxRecDepth 100000 in
set_option maxHeartbeats 8000000 in
theorem branch_any (B D : Nat) (x : VW) (u : Value) (us : List Value) (o : OW) (dv : Value) (pn : Int) (k : Nat) (kd : Int) (w : World) (H : DrV B w D x u us o dv pn (k : Int)) (hk : k < x.vs.length) (hl : shV x.vs) (hl2 : x.vs.length ≤ 16777215) (hB : B ≤ w.heap.size) :
  Calls Tryz.prog 95 #[.pointer (some ⟨D, 0, none⟩), .int .i64 kd] w fun e w' => DoQ B w D (addP x o ⟨ByteArray.empty, 0, x.vs[k].sz, x.vs[k].id, kd, false, x.vs[k].mp⟩) o dv pn (k : Int) e w' := by
 obtain ⟨g, c, sa, sc, rfl, hg, hus, hV, hn, _⟩ := H.ow.volc hk
 have hs16 : x.vs[k].mp.length ≤ 16777216 := hl.2 _ (List.getElem_mem hk)
 have hdk := H.ow.dat k hk
 rw [hus] at hdk
 have HS2 := hid (second_any D x g 0 x.vs.length c k o dv pn w H.dr hk)
 generalize hs : x.vs[k] = s at *
 obtain ⟨_, k1, k2, _, _, _, k6⟩ := hV
 have hgl := (H.ow.blk hg).2.1
 have HU : Hid (∀ q, ∃ W2, W2 = w.drewN q ∧ (W2.cell? ⟨g, k * 7 + 2, none⟩ = some (.int .i64 s.sz) ∧ W2.cell? ⟨g, k * 7 + 1, none⟩ = some (.int .i64 s.id) ∧ W2.cell? ⟨g, k * 7 + 6, none⟩ = some (.slice sa s.mp.length sc)) ∧ Below w.heap.size w W2 ∧ g < W2.heap.size) := fun q => ⟨_, rfl, ⟨k2, k1, k6⟩, below_drewN' _ _ _, hgl⟩
 have HC0 : Hid (∀ W2, Below w.heap.size w W2 → Calls Tryz.prog 50 #[.slice sa s.mp.length sc] W2.drew fun e w' => ∃ v, e = .returned v ∧ OwR W2.drew.heap.size w' v s.mp ∧ Below W2.drew.heap.size W2.drew w') := fun W2 hb => by
  have h1 : OwR B W2 (.slice sa s.mp.length sc) s.mp := own_next hdk hb
  obtain ⟨a', c', e, hR, hn'⟩ := h1.rd
  simp only [Value.slice.injEq, true_and] at e
  obtain ⟨rfl, rfl⟩ := e
  exact CloneR_any sa sc s.mp W2.drew hR hn' hs16
 have HA0 : Hid (∀ W2, Below w.heap.size w W2 → ∀ w3 za zc, Below W2.drew.heap.size W2.drew w3 → OwR W2.drew.heap.size w3 (.slice za s.mp.length zc) s.mp → Calls Tryz.prog 94 #[.pointer (some ⟨D, 0, none⟩), .agg #[.string ByteArray.empty, .int .i64 0, .int .i64 s.sz, .int .i64 s.id, .int .i64 kd, .bool false, .slice za s.mp.length zc]] w3 fun e w' => DoQ B w D (addP x o ⟨ByteArray.empty, 0, s.sz, s.id, kd, false, s.mp⟩) o dv pn (k : Int) e w') := fun W2 hb w3 za zc hb3 hz => by
  have hb3' := hb.trans ((undrew hb3).mono hb.size)
  have hle : w.heap.size ≤ W2.drew.heap.size := hb.size
  have := add_any B D x (.slice (some ⟨g, 0, none⟩) x.vs.length c) us o dv pn (k : Int) ⟨ByteArray.empty, 0, s.sz, s.id, kd, false, s.mp⟩ za zc w3 (H.next hb3') (own_mono hz (by omega)) (fun i hi g' hg' e => by
   have h1 := (H.ow.lst hi hg').2.1
   have h2 := (own_blk hz e).1
   omega) hl2 (by have := hb3'.size; omega)
  refine this.mono fun e w' hq => ⟨hq.1, hq.2.1, (BelK.low hb3' rfl hB).trans hq.2.2⟩
 clear H hus hn hdk hs hg k1 k2 k6 hs16 hl hl2 hk hgl hB
 have mixed : Tryz.prog.follows Departure.mixedOrders = true := by kernel_rfl
 go_enter Tryz.func95, Tryz.ntmps95
 go_wp2_with fail
 refine HS2.out.mono ?_
 rintro e w2 ⟨rfl, q, rfl⟩
 obtain ⟨W2, hW2, ⟨k2, k1, k6⟩, hb2, hgl⟩ := HU.out q
 rw [← hW2]
 simp only [Nat.zero_add]
 have HCl := hid (HC0.out W2 hb2)
 have HA := hid (HA0.out W2 hb2)
 have HK : Hid (∀ w3, Below W2.drew.heap.size W2.drew w3 → w3.cell? ⟨g, k * 7 + 2, none⟩ = some (.int .i64 s.sz) ∧ w3.cell? ⟨g, k * 7 + 1, none⟩ = some (.int .i64 s.id) ∧ w3.cell? ⟨g, k * 7 + 6, none⟩ = some (.slice sa s.mp.length sc)) := fun w3 h => ⟨(h.cell (by exact hgl)).trans k2, (h.cell (by exact hgl)).trans k1, (h.cell (by exact hgl)).trans k6⟩
 clear hW2 hb2 hgl HC0 HA0 HU HS2
 go_wp2_with fail
 refine wp_region_last (S := (fun y => y.cell? ⟨g, k * 7 + 2, none⟩ = some (.int .i64 s.sz) ∧ y.cell? ⟨g, k * 7 + 1, none⟩ = some (.int .i64 s.id) ∧ y.cell? ⟨g, k * 7 + 6, none⟩ = some (.slice sa s.mp.length sc))) 16 16 (by kernel_rfl) (by kernel_rfl) (by kernel_rfl) ⟨k2, k1, k6⟩ (fun hSS => ?_)
 refine Ti 0 rfl ?_
 refine Ti 1 rfl ?_
 refine Ti 2 rfl ?_
 refine Ti 3 rfl ?_
 try simp only [Act.put, zA, zB, zC]
 refine Ti 4 rfl ?_
 refine Ti 5 rfl ?_
 refine Ti 6 rfl ?_
 refine Ti 7 rfl ?_
 try simp only [Act.put, zA, zB, zC]
 refine Ti 8 rfl ?_
 refine Ti 9 rfl ?_
 refine Ti 10 rfl ?_
 refine Ti 11 rfl ?_
 try simp only [Act.put, zA, zB, zC]
 refine Ti 12 rfl ?_
 refine Ti 13 rfl ?_
 try simp only [Act.put, zA, zB, zC]
 refine Ri 14 rfl (fun K9 hK9 => ?_)
 go_simp
 go_at_call 50
 refine HCl.out.mono ?_
 rintro e w3 ⟨z, rfl, hz, hb3⟩
 obtain ⟨za, zc, rfl, _⟩ := hz.rd
 refine hK9.out _ _ (HK.out w3 hb3) (fun hSS => ?_)
 try simp only [Act.put, zA, zB, zC]
 refine Ti 15 rfl ?_
 try simp only [Act.put, zA, zB, zC]
 refine Dn ?_
 refine last_step (L := 16) (o := ({ dst := some 23, op := Op.call { callee := Callee.value (Operand.func 94), args := #[Operand.tmp 7, Operand.tmp 22], argTypes := #[67, 38] }, type := 0, pos := _, after := _, guard := none } : Oper)) rfl (fun K9 hK9 => ?_)
 go_simp
 go_at_call 94
 refine (HA.out w3 za zc hb3 hz).mono ?_
 rintro e w4 ⟨rfl, h1, h2⟩
 refine hK9.out _ _ ?_
 try simp only [Act.put, zA, zB, zC]
 have HQ : Hid (DoQ B w D (addP x o ⟨ByteArray.empty, 0, s.sz, s.id, kd, false, s.mp⟩) o dv pn (k : Int) (.returned (.tuple #[])) w4) := ⟨rfl, h1, h2⟩
 clear h1 h2 HA HK HCl
 go_wp2
 go_end0
 exact HQ.out
set_option maxRecDepth 100000 in
set_option maxHeartbeats 4000000 in
theorem snap_any (B D : Nat) (x : VW) (u : Value) (us : List Value) (o : OW) (dv : Value) (pn : Int) (k : Nat) (w : World) (H : DrV B w D x u us o dv pn (k : Int)) (hk : k < x.vs.length) (hl : shV x.vs) (hl2 : x.vs.length ≤ 16777215) (hB : B ≤ w.heap.size) :
  Calls Tryz.prog 61 #[.pointer (some ⟨D, 0, none⟩)] w fun e w' => DoQ B w D (addP x o ⟨ByteArray.empty, 0, x.vs[k].sz, x.vs[k].id, 1, false, x.vs[k].mp⟩) o dv pn (k : Int) e w' := by
 have HA := hid (branch_any B D x u us o dv pn k 1 w H hk hl hl2 hB)
 generalize addP x o ⟨ByteArray.empty, 0, x.vs[k].sz, x.vs[k].id, 1, false, x.vs[k].mp⟩ = x' at *
 clear H
 go_enter Tryz.func61, Tryz.ntmps61
 go_wp2_with fail
 refine HA.out.mono ?_
 rintro e w4 ⟨rfl, h1, h2⟩
 have HQ : Hid (DoQ B w D x' o dv pn (k : Int) (.returned (.tuple #[])) w4) := ⟨rfl, h1, h2⟩
 clear h1 h2 HA
 go_wp2
 go_end0
 exact HQ.out
set_option maxRecDepth 100000 in
set_option maxHeartbeats 4000000 in
theorem clone_any (B D : Nat) (x : VW) (u : Value) (us : List Value) (o : OW) (dv : Value) (pn : Int) (k : Nat) (w : World) (H : DrV B w D x u us o dv pn (k : Int)) (hk : k < x.vs.length) (hl : shV x.vs) (hl2 : x.vs.length ≤ 16777215) (hB : B ≤ w.heap.size) :
  Calls Tryz.prog 62 #[.pointer (some ⟨D, 0, none⟩)] w fun e w' => DoQ B w D (addP x o ⟨ByteArray.empty, 0, x.vs[k].sz, x.vs[k].id, 0, false, x.vs[k].mp⟩) o dv pn (k : Int) e w' := by
 have HA := hid (branch_any B D x u us o dv pn k 0 w H hk hl hl2 hB)
 generalize addP x o ⟨ByteArray.empty, 0, x.vs[k].sz, x.vs[k].id, 0, false, x.vs[k].mp⟩ = x' at *
 clear H
 go_enter Tryz.func62, Tryz.ntmps62
 go_wp2_with fail
 refine HA.out.mono ?_
 rintro e w4 ⟨rfl, h1, h2⟩
 have HQ : Hid (DoQ B w D x' o dv pn (k : Int) (.returned (.tuple #[])) w4) := ⟨rfl, h1, h2⟩
 clear h1 h2 HA
 go_wp2
 go_end0
 exact HQ.out
end Go.Proofs.YtddddfankeepkaaGreatDoor
namespace Go.Proofs.YtddddfankeepkaaGreatDoor
open Go.RowKit
theorem own_any {B : Nat} {e : TypeId} {n m : Nat} {w : World} {v : Value} {xs : List Value} (h : w.ownsRow B e n v m xs) : ∃ a c, v = .slice a m c := by
 rcases own_form h with ⟨e, q⟩ | ⟨g, c, e, _⟩
 ·exact ⟨none, 0, by rw [e, q]⟩
 ·exact ⟨_, c, e⟩
theorem OwV.one {B : Nat} {w : World} {u : Value} {vs : List PV} {us : List Value} (h : OwV B w u vs us) : ∀ z ∈ flatV vs us, z.oneCell' = true := by
 intro z hz
 obtain ⟨k, hk⟩ := List.getElem?_of_mem hz
 have hk' : k < (flatV vs us).length := (List.getElem?_eq_some_iff.1 hk).1
 rw [flatV_len _ _ h.len] at hk'
 have hj : k / 7 < vs.length := by omega
 have h1 := flatV_at vs us h.len (k / 7) hj (k % 7) (by omega)
 rw [show k / 7 * 7 + k % 7 = k by omega, hk] at h1
 have hu : (us[k / 7]'(by have := h.len; omega)).oneCell' = true := by
  rcases own_form (h.dat (k / 7) hj) with ⟨e, _⟩ | ⟨_, _, e, _⟩ <;> rw [e] <;> rfl
 rcases (show k % 7 = 0 ∨ k % 7 = 1 ∨ k % 7 = 2 ∨ k % 7 = 3 ∨ k % 7 = 4 ∨ k % 7 = 5 ∨ k % 7 = 6 by omega) with h | h | h | h | h | h | h <;> rw [h] at h1 <;> simp [cells7] at h1 <;> first | (subst h1; rfl) | (rw [h1]; exact hu)
theorem OwV.del {B : Nat} {w w' : World} {u v' : Value} {vs : List PV} {us : List Value} {k : Nat} (h : OwV B w u vs us) (hk : k < vs.length) (hr : w'.ownsRow B 38 7 v' (vs.length - 1) ((flatV vs us).take (k * 7) ++ (flatV vs us).drop (k * 7 + 7)))
  (hkp : ∀ g, g < w.heap.size → (∃ cur, w.heap[g]? = some (.cells cur 78 (0, 0))) → w'.heap[g]? = w.heap[g]?) : OwV B w' v' (vs.eraseIdx k) (us.eraseIdx k) := by
 have keep : ∀ {z : Value} {rs : List Rg}, OwR B w z rs → OwR B w' z rs := fun {z rs} hz => own_keep hz fun g hg => hkp g (own_blk hz hg).2.1 (own_blk hz hg).2.2
 have hl := h.len
 have e1 : (vs.eraseIdx k).length = vs.length - 1 := List.length_eraseIdx_of_lt hk
 have e2 : (us.eraseIdx k).length = us.length - 1 := List.length_eraseIdx_of_lt (by omega)
 refine ⟨by omega, ?_, fun i hi => ?_⟩
 ·rw [flatV_del vs us hl, e1]
  exact hr
 ·rw [List.getElem_eraseIdx, List.getElem_eraseIdx]
  split
  ·exact keep (h.dat i (by omega))
  ·exact keep (h.dat (i + 1) (by omega))
def RmQ (B : Nat) (w : World) (D k : Nat) (x : VW) (u : Value) (us : List Value) (o : OW) (dv : Value) (pn po : Int) (e : Ending) (w' : World) : Prop := e = .returned (.tuple #[]) ∧ (∃ u', DrV B w' D ⟨x.cp, x.fr, x.nx, x.vs.eraseIdx k⟩ u' (us.eraseIdx k) o dv pn po ∧ OwnB w u u') ∧ But (fun g => g = D ∨ u.ownBlock = some g) w w'
set_option maxRecDepth 100000 in
set_option maxHeartbeats 8000000 in
theorem remove_any (B D : Nat) (x : VW) (u : Value) (us : List Value) (o : OW) (dv : Value) (k : Nat) (po : Int) (w : World) (H : DrV B w D x u us o dv (k : Int) po) (hk : k < x.vs.length) (hl : x.vs.length ≤ 16777216) :
  Calls Tryz.prog 67 #[.pointer (some ⟨D, 0, none⟩)] w fun e w' => RmQ B w D k x u us o dv (k : Int) po e w' := by
 obtain ⟨g, c, rfl, hg⟩ : ∃ g c, u = .slice (some ⟨g, 0, none⟩) x.vs.length c ∧ u.ownBlock = some g := by
  obtain ⟨g, c, _, _, h1, h2, _⟩ := H.ow.volc hk
  exact ⟨g, c, h1, h2⟩
 obtain ⟨_, _, _, k3, _, _, _, _, _, _, k10, _⟩ := H.dr.cs
 have hDl := H.dr.lt
 have HD0 := DelV_any B x.vs.length k (.slice (some ⟨g, 0, none⟩) x.vs.length c) (flatV x.vs us) w.drew (show w.drew.ownsRow B 38 7 _ _ _ from H.ow.row) H.ow.one hk hl
 have HK : Hid (∀ w3, w.drew.grownBy w3 (some g) → w3.cell? ⟨D, 3, none⟩ = some (.slice (some ⟨g, 0, none⟩) x.vs.length c) ∧ w3.cell? ⟨D, 10, none⟩ = some (.int .i64 (k : Int))) := fun w3 hq => by
  have hgD : w3.heap[D]? = w.heap[D]? := hq.block D hDl (fun e => H.ne.1 (by rw [hg, e]))
  have := (H.dr.keep hgD).cs
  exact ⟨this.2.2.2.1, this.2.2.2.2.2.2.2.2.2.2.1⟩
 have HFz : Hid (∀ w3, w.drew.grownBy w3 (some g) → w3.frozen? ⟨D, 3, none⟩ = false) := fun w3 hq => by
  have hgD : w3.heap[D]? = w.heap[D]? := hq.block D hDl (fun e => H.ne.1 (by rw [hg, e]))
  exact (H.dr.keep hgD).fz 3
 have HF : Hid (∀ v' w3 y, w3.ownsRow B 38 7 v' (x.vs.length - 1) ((flatV x.vs us).take (k * 7) ++ (flatV x.vs us).drop (k * 7 + 7)) → w.drew.grownBy w3 (some g) → OwnB w.drew (.slice (some ⟨g, 0, none⟩) x.vs.length c) v' → y = w3.setCell ⟨D, 3, none⟩ v' → RmQ B w D k x (.slice (some ⟨g, 0, none⟩) x.vs.length c) us o dv (k : Int) po (.returned (.tuple #[])) y) := fun v' w3 y hr hq ho hy => by
  have hgD : w3.heap[D]? = w.heap[D]? := hq.block D hDl (fun e => H.ne.1 (by rw [hg, e]))
  have hdr := H.dr.keep hgD
  have hy2 : ∀ z, z ≠ D → y.heap[z]? = w3.heap[z]? := fun z hz => by rw [hy]; exact Below.heap_setCell _ _ _ _ hz
  have hrow4 : y.ownsRow B 38 7 v' (x.vs.length - 1) ((flatV x.vs us).take (k * 7) ++ (flatV x.vs us).drop (k * 7 + 7)) := by
   refine own_keep hr fun z hz => hy2 z (fun e => ?_)
   obtain ⟨_, _, cur, hc⟩ := own_blk hr hz
   rw [e] at hc
   exact absurd (row_kind hc hdr) (by decide)
  refine ⟨rfl, ⟨v', ⟨by rw [hy]; exact hdr.setU rfl rfl rfl, H.ow.del hk hrow4 (fun z hzl ⟨cur, hc⟩ => ?_), H.ap.erase k, H.hD⟩, ho⟩, ?_⟩
  ·have hzD : z ≠ D := fun e => by rw [e] at hc; exact absurd (row_kind hc H.dr) (by decide)
   rw [hy2 z hzD]
   exact hq.block z hzl (fun e => by
    obtain ⟨_, _, cur', hc'⟩ := H.ow.blk hg
    simp only [Option.some.injEq] at e
    rw [e] at hc
    exact absurd (row_kind hc hc') (by decide))
  ·rw [hy]
   refine But.setCell (p := ⟨D, 3, none⟩) (a := w) (w := w3) ⟨hq.os, hq.tape, hq.output, hq.size, fun z hz hx => hq.block z hz (fun e => hx (.inr (by rw [hg, e])))⟩ (.inl rfl) v'
 obtain ⟨ln, hln⟩ : ∃ ln, x.vs.length = ln := ⟨_, rfl⟩
 rw [hln] at HD0 HK HF k3
 have HD := hid HD0
 have HLn := hid hln
 have hk1 : (k : Int) < (ln : Int) := by omega
 have hw1 : IntKind.i64.wrap ((k : Int) + 1) = (k : Int) + 1 := by rw [IntKind.wrap_i64]; omega
 rw [hln]
 have mixed : Tryz.prog.follows Departure.mixedOrders = true := by kernel_rfl
 clear H hg hl hk hln HD0 hDl
 go_enter Tryz.func67, Tryz.ntmps67
 go_wp2_with fail
 refine wp_region_last (S := (fun y => y.cell? ⟨D, 3, none⟩ = some (.slice (some ⟨g, 0, none⟩) ln c) ∧ y.cell? ⟨D, 10, none⟩ = some (.int .i64 (k : Int)))) 19 19 (by kernel_rfl) (by kernel_rfl) (by kernel_rfl) ⟨k3, k10⟩ (fun hSS => ?_)
 refine Ti 0 rfl ?_
 refine Ti 1 rfl ?_
 refine Ti 2 rfl ?_
 refine Ti 3 rfl ?_
 try simp only [Act.put, zA, zB, zC]
 refine Ti 4 rfl ?_
 refine Ti 5 rfl ?_
 refine Ti 6 rfl ?_
 refine Ti 7 rfl ?_
 try simp only [Act.put, zA, zB, zC]
 refine Ti 8 rfl ?_
 refine Ti 9 rfl ?_
 refine Ti 10 rfl ?_
 refine Ti 11 rfl ?_
 try simp only [Act.put, zA, zB, zC]
 refine Ti 12 rfl ?_
 refine Ti 13 rfl ?_
 try simp only [Act.put, zA, zB, zC]
 refine wpAnyH_take (i := 14) (oi := ({ dst := some 16, op := Op.binOp BinOp.add 3 (Operand.tmp 15) (Operand.const (Value.int IntKind.i64 1)) 3, type := 3, pos := _, after := _, guard := none } : Oper)) (v := .int .i64 ((k : Int) + 1)) rfl (by kernel_rfl) (by kernel_rfl) (by kernel_rfl) (fun _ _ _ h => h) (Or.inl ⟨by rfl, ?_⟩) hSS ?_
 ·intro w9 hSw
  (try dsimp only at hSw)
  (try go_split_ands)
  first | (go_simp; done) | (go_simp; simp [hw1]; done)
 try simp only [Act.put, zA, zB, zC]
 refine Ri 15 rfl (fun K9 hK9 => ?_)
 go_simp
 go_at_call 100
 refine HD.out.mono ?_
 rintro e w3 ⟨v', rfl, hq1, hq2, hq3⟩
 obtain ⟨a4, c4, rfl⟩ := own_any hq1
 have HF4 := hid (fun y => HF.out _ w3 y hq1 hq2 hq3)
 have fz := HFz.out w3 hq2
 have k3 := (HK.out w3 hq2).1
 refine hK9.out _ _ (HK.out w3 hq2) (fun hSS => ?_)
 try simp only [Act.put, zA, zB, zC]
 refine Ti 16 rfl ?_
 refine Ti 17 rfl ?_
 refine Ti 18 rfl ?_
 try simp only [Act.put, zA, zB, zC]
 refine Dn ?_
 refine last_step (L := 19) (o := ({ dst := none, op := Op.store 22 (Operand.tmp 20) (Operand.tmp 17), type := 0, pos := _, after := _, guard := none } : Oper)) rfl (fun K9 hK9 => ?_)
 go_simp
 refine hK9.out _ _ ?_
 try simp only [Act.put, zA, zB, zC]
 go_wp2
 go_end0
 exact HF4.out _ rfl
end Go.Proofs.YtddddfankeepkaaGreatDoor
