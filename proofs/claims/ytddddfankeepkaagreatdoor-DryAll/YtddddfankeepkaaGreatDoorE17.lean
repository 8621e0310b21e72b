import Derived.Test.YtddddfankeepkaaGreatDoorE16
import Derived.Test.YtddddfankeepkaaGreatDoorE15
import Derived.Lib.Bytealg
import Derived.Laws.Externs
namespace Go.Proofs.YtddddfankeepkaaGreatDoor
open Go.RowKit
def cmpN (a b : ByteArray) : Int := Lib.compareBytes a.data.toList b.data.toList
set_option maxHeartbeats 1000000 in
set_option maxRecDepth 100000 in
theorem cmpS_any (a b : ByteArray) (w : World) : Calls Tryz.prog 133 #[.string a, .string b] w fun e w' => e = .returned (.int .i64 (cmpN a b)) ∧ w' = w := by
 unfold cmpN
 go_enter Tryz.func133, Tryz.ntmps133
 go_wp2
 rw [run_callFunc_extern Tryz.func142 (by kernel_rfl) (by kernel_rfl) (by kernel_rfl) (e := Extern.BytealgCompare.compare) (by kernel_rfl), Lib.run_compareString]
 simp only [Result.andThen]
 rw [Oper.upon_value]
 go_wp2
 go_ret
 exact ⟨rfl, rfl⟩
set_option maxHeartbeats 1000000 in
theorem Compare_any (a b : ByteArray) (w : World) : Calls Tryz.prog 115 #[.string a, .string b] w fun e w' => e = .returned (.int .i64 (cmpN a b)) ∧ w' = w := by
 have H := hid (cmpS_any a b w)
 generalize cmpN a b = r at *
 go_enter Tryz.func115, Tryz.ntmps115
 go_wp2_with fail
 refine Calls.mono H.out ?_
 rintro e w' ⟨rfl, rfl⟩
 go_wp2
 go_ret
 exact ⟨rfl, rfl⟩
set_option maxHeartbeats 1000000 in
theorem byName_any (v : PV) (a : Option Addr) (c : Nat) (nm : ByteArray) (w : World) : Calls Tryz.prog 114 #[volA v a c, .string nm] w fun e w' => LkQ w (cmpN v.nm nm) e w' := by
 have HC := hid (fun u => Compare_any v.nm nm u)
 have HB := hid (below1 w (.cells #[.string v.nm, .int .i64 v.id, .int .i64 v.sz, .int .i64 v.og, .int .i64 v.kd, .bool v.pt, .slice a v.mp.length c] 38))
 generalize cmpN v.nm nm = r at *
 dsimp only [volA]
 go_enter Tryz.func114, Tryz.ntmps114
 go_wp2_with fail
 refine (HC.out _).mono ?_
 rintro e w' ⟨rfl, rfl⟩
 go_wp2
 go_ret
 exact ⟨rfl, HB.out⟩
def layI (vs : List PV) (nm : ByteArray) : Nat := srch (fun h => !decide (cmpN (vs.getD h PV0).nm nm < 0)) vs.length 0 vs.length
theorem layI_le (vs : List PV) (nm : ByteArray) : layI vs nm ≤ vs.length := (srch_le _ _ _ _ (Nat.zero_le _)).2
def BinQ (w : World) (i : Nat) (e : Ending) (w' : World) : Prop := ∃ b : Bool, e = .returned (.tuple #[.int .i64 (i : Int), .bool b]) ∧ Below w.heap.size w w'
set_option maxRecDepth 100000 in
set_option maxHeartbeats 4000000 in
theorem Bin_any (a : Option Addr) (c : Nat) (vs : List PV) (nm : ByteArray) (w : World) (hn : vs.length ≤ 16777216) (hR : RdV w.heap.size w a vs) :
  Calls Tryz.prog 116 #[.slice a vs.length c, .string nm, .func (.func 114) #[] #[]] w fun e w' => BinQ w (layI vs nm) e w' := by
 obtain ⟨q, hq⟩ : ∃ q : Nat → Bool, q = fun h => !decide (cmpN (vs.getD h PV0).nm nm < 0) := ⟨_, rfl⟩
 have hlay : layI vs nm = srch q vs.length 0 vs.length := by unfold layI; rw [hq]
 have hin := layI_le vs nm
 have HL := hid hlay
 have HR := hid hR
 have HQ := hid (fun h => congrFun hq h)
 have HIN := hid hin
 generalize layI vs nm = L at *
 obtain ⟨n, hN⟩ : ∃ n, vs.length = n := ⟨_, rfl⟩
 have HN := hid hN
 have hL' := HL.out
 rw [hN] at hL' hn hin
 have HL2 := hid hL'
 clear hL' HL hR hq hlay
 rw [hN]
 clear hN
 go_enter Tryz.func116, Tryz.ntmps116
 go_wp2_with fail
 go_loopw [9, 10] (fun iv jv wr => ∃ i j d : Nat, iv = .int .i64 (i : Int) ∧ jv = .int .i64 (j : Int) ∧ i ≤ j ∧ j ≤ n ∧ j - i ≤ d ∧ srch q d i j = L ∧ Below w.heap.size w wr) (fun iv jv _ => (intOf jv).toNat - (intOf iv).toNat)
 case atStart => exact ⟨0, n, n, rfl, rfl, Nat.zero_le _, Nat.le_refl _, by omega, HL2.out.symm, Below.refl _ _⟩
 case round =>
  obtain ⟨i, j, d, rfl, rfl, hij, hjn, hd, hs, hb⟩ := hrel
  by_cases hlt : i < j
  ·obtain ⟨d', rfl⟩ : ∃ d', d = d' + 1 := ⟨d - 1, by omega⟩
   rw [srch, if_pos hlt] at hs
   have hl1 : (i : Int) < (j : Int) := by omega
   have hce : (((i + j) / 2 : Nat) : Int) = ((i : Int) + (j : Int)) / 2 := by omega
   have hmv : (i + j) / 2 < vs.length := by have := HN.out; omega
   obtain ⟨b, off, rfl, hbl, hc⟩ := (HR.out.below hb).resolve_left (fun e => by rw [e] at hmv; simp at hmv)
   obtain ⟨xa, xc, ⟨c0, c1, c2, c3, c4, c5, c6⟩, _, _⟩ := hc _ hmv
   have hqm : q ((i + j) / 2) = !decide (cmpN vs[(i + j) / 2].nm nm < 0) := by
    rw [HQ.out, List.getD_eq_getElem?_getD, List.getElem?_eq_getElem hmv]
    rfl
   have HC := hid (byName_any vs[(i + j) / 2] xa xc nm wr)
   obtain ⟨m, hm⟩ : ∃ m, (i + j) / 2 = m := ⟨_, rfl⟩
   have hce2 : ((i : Int) + (j : Int)) / 2 = (m : Int) := by omega
   have hm1 : i ≤ m ∧ m < j := by omega
   simp only [hm] at c0 c1 c2 c3 c4 c5 c6 hs hqm HC hmv
   have hm2 : (m : Int) < (n : Int) := by omega
   have HB := hid hb
   have HS := hid hs
   have HQM := hid hqm
   have HM := hid hm1
   generalize vs[m] = v at *
   generalize cmpN v.nm nm = r at *
   clear hs hb hce hqm hc hm hmv hm1 HQ HR
   dsimp only [volA] at HC
   go_wp2_with fail
   refine HC.out.mono ?_
   rintro e w2 ⟨rfl, hb2⟩
   have HB2 := hid (HB.out.trans (hb2.mono HB.out.size))
   clear hb2 HC HB c0 c1 c2 c3 c4 c5 c6
   by_cases hr : r < 0
   ·have HS2 : Hid (srch q d' (m + 1) j = L) := hid (by have := HS.out; have hp := HQM.out; rw [decide_eq_true hr] at hp; simpa [hp] using this)
    clear HS HQM
    go_wp2
    go_roundw
    case rel => exact ⟨m + 1, j, d', by go_num, rfl, by have := HM.out; omega, by omega, by have := HM.out; omega, HS2.out, HB2.out⟩
    case measure => have := HM.out; simp [intOf]; omega
   ·have HS2 : Hid (srch q d' i m = L) := hid (by have := HS.out; have hp := HQM.out; rw [decide_eq_false hr] at hp; simpa [hp] using this)
    clear HS HQM
    go_wp2
    go_roundw
    case rel => exact ⟨i, m, d', rfl, rfl, by have := HM.out; omega, by have := HM.out; omega, by have := HM.out; omega, HS2.out, HB2.out⟩
    case measure => have := HM.out; simp [intOf]; omega
  ·have hl1 : ¬ (i : Int) < (j : Int) := by omega
   have HS : Hid (i = L) := by
    have : srch q d i j = i := by
     cases d with
     | zero => rfl
     | succ d => rw [srch, if_neg hlt]
    rw [this] at hs
    exact hs
   by_cases hin2 : i < n
   ·have hmv : i < vs.length := by have := HN.out; omega
    obtain ⟨b, off, rfl, hbl, hc⟩ := (HR.out.below hb).resolve_left (fun e => by rw [e] at hmv; simp at hmv)
    obtain ⟨xa, xc, ⟨c0, c1, c2, c3, c4, c5, c6⟩, _, _⟩ := hc _ hmv
    have HC := hid (byName_any vs[i] xa xc nm wr)
    generalize vs[i] = v at *
    generalize cmpN v.nm nm = r at *
    have HB := hid hb
    have hi3 : (i : Int) < (n : Int) := by omega
    clear hs hb HQ HR hc hmv
    dsimp only [volA] at HC
    go_wp2_with fail
    refine HC.out.mono ?_
    rintro e w2 ⟨rfl, hb2⟩
    have HB2 := hid (HB.out.trans (hb2.mono HB.out.size))
    clear hb2 HC HB c0 c1 c2 c3 c4 c5 c6
    go_wp2
    go_ret2
    have e := HS.out
    subst e
    exact ⟨_, rfl, HB2.out⟩
   ·have HB := hid hb
    have hi3 : ¬ (i : Int) < (n : Int) := by omega
    clear hs hb HQ HR
    go_wp2
    go_ret2
    have e := HS.out
    subst e
    exact ⟨_, rfl, HB.out⟩
end Go.Proofs.YtddddfankeepkaaGreatDoor
namespace Go.Proofs.YtddddfankeepkaaGreatDoor
open Go.RowKit
def Ap (us : List Value) : Prop := ∀ (i j : Nat) (hi : i < us.length) (hj : j < us.length) (g : Nat), us[i].ownBlock = some g → us[j].ownBlock = some g → i = j
structure DrV (B : Nat) (w : World) (D : Nat) (x : VW) (u : Value) (us : List Value) (o : OW) (dv : Value) (pn po : Int) : Prop where
 dr : DrB w D x u o dv pn po
 ow : OwV B w u x.vs us
 ap : Ap us
 hD : B ≤ D
theorem DrV.next {B : Nat} {w w' : World} {D : Nat} {x : VW} {u : Value} {us : List Value} {o : OW} {dv : Value} {pn po : Int} (h : DrV B w D x u us o dv pn po) (hb : Below w.heap.size w w') : DrV B w' D x u us o dv pn po :=
 ⟨h.dr.keep (hb.block _ h.dr.lt), h.ow.next hb, h.ap, h.hD⟩
/-! ### what stays: all below B, and the rules -/
def KdOk (w : World) (g : Nat) : Prop := ∃ (cur : Array Value) (t : TypeId) (fr : Nat × Nat), w.heap[g]? = some (.cells cur t fr) ∧ t ≠ 94 ∧ t ≠ 99
structure BelK (B : Nat) (w w' : World) : Prop extends Below B w w' where
 kk : ∀ (b : Nat) (cs : Array Value) (t : TypeId) (fr : Nat × Nat), w.heap[b]? = some (.cells cs t fr) → (t = 94 ∨ t = 99) → w'.heap[b]? = w.heap[b]?
theorem BelK.low {A B : Nat} {w w' : World} (h : Below A w w') (hA : A = w.heap.size) (hB : B ≤ A) : BelK B w w' :=
 ⟨⟨h.os, h.tape, h.output, h.size, fun k hk => h.block k (by omega)⟩, fun b cs t fr hb _ => h.block b (by rw [hA]; exact (Array.getElem?_eq_some_iff.1 hb).1)⟩
theorem BelK.trans {B : Nat} {a b c : World} (h : BelK B a b) (k : BelK B b c) : BelK B a c :=
 ⟨h.toBelow.trans k.toBelow, fun g cs t fr hg ht => (k.kk g cs t fr ((h.kk g cs t fr hg ht).trans hg) ht).trans (h.kk g cs t fr hg ht)⟩
theorem BelK.set {B : Nat} {a w : World} (h : BelK B a w) {p : Addr} (hB : B ≤ p.block) (hk : KdOk w p.block) (z : Value) : BelK B a (w.setCell p z) := by
 refine ⟨h.toBelow.setCell hB z, fun g cs t fr hg ht => ?_⟩
 have e := (h.kk g cs t fr hg ht).trans hg
 have hne : g ≠ p.block := fun q => by
  obtain ⟨c2, t2, f2, h2, n1, n2⟩ := hk
  rw [← q, e] at h2
  simp only [Option.some.injEq, Obj.cells.injEq] at h2
  rcases ht with ht | ht
  ·exact n1 (by rw [← h2.2.1, ht])
  ·exact n2 (by rw [← h2.2.1, ht])
 rw [Below.heap_setCell _ _ _ _ hne]
 exact e.trans hg.symm
theorem BelK.grown {B : Nat} {w w' : World} {r : Option Nat} (h : w.grownBy w' r) (hB : B ≤ w.heap.size) (hr : ∀ g, r = some g → B ≤ g ∧ KdOk w g) : BelK B w w' :=
 ⟨⟨h.os, h.tape, h.output, h.size, fun k hk => h.block k (by omega) (fun e => by have := (hr k e.symm).1; omega)⟩, fun g cs t fr hg ht => h.block g (Array.getElem?_eq_some_iff.1 hg).1 (fun e => by
  obtain ⟨c2, t2, f2, h2, n1, n2⟩ := (hr g e.symm).2
  rw [hg] at h2
  simp only [Option.some.injEq, Obj.cells.injEq] at h2
  rcases ht with ht | ht
  ·exact n1 (by rw [← h2.2.1, ht])
  ·exact n2 (by rw [← h2.2.1, ht]))⟩
theorem BelK.but {B : Nat} {w w' : World} {X : Nat → Prop} (h : But X w w') (hB : B ≤ w.heap.size) (hr : ∀ g, X g → B ≤ g ∧ KdOk w g) : BelK B w w' :=
 ⟨⟨h.os, h.tape, h.output, h.size, fun k hk => h.block k (by omega) (fun e => by have := (hr k e).1; omega)⟩, fun g cs t fr hg ht => h.block g (Array.getElem?_eq_some_iff.1 hg).1 (fun e => by
  obtain ⟨c2, t2, f2, h2, n1, n2⟩ := (hr g e).2
  rw [hg] at h2
  simp only [Option.some.injEq, Obj.cells.injEq] at h2
  rcases ht with ht | ht
  ·exact n1 (by rw [← h2.2.1, ht])
  ·exact n2 (by rw [← h2.2.1, ht]))⟩
theorem KdOk.set {w : World} {g : Nat} (h : KdOk w g) (p : Addr) (z : Value) : KdOk (w.setCell p z) g := by
 obtain ⟨c, t, f, h1, h2, h3⟩ := h
 by_cases e : p.block = g
 ·subst e
  obtain ⟨c', hc'⟩ : ∃ c', (w.setCell p z).heap[p.block]? = some (.cells c' t f) := by simp [World.setCell, Array.getElem?_modify, h1]
  exact ⟨c', t, f, hc', h2, h3⟩
 ·exact ⟨c, t, f, (Below.heap_setCell _ _ _ _ (by exact fun q => e q.symm)).trans h1, h2, h3⟩
theorem KdOk.own {B : Nat} {e : TypeId} {n m : Nat} {w : World} {v : Value} {xs : List Value} (h : w.ownsRow B e n v m xs) {g : Nat} (hg : v.ownBlock = some g) (h1 : e ≠ 94) (h2 : e ≠ 99) : B ≤ g ∧ KdOk w g := by
 obtain ⟨hb, _, cur, hc⟩ := own_blk h hg
 exact ⟨hb, _, _, _, hc, h1, h2⟩
theorem DrV.kd {B : Nat} {w : World} {D : Nat} {x : VW} {u : Value} {us : List Value} {o : OW} {dv : Value} {pn po : Int} (h : DrV B w D x u us o dv pn po) : KdOk w D := ⟨_, _, _, h.dr, by decide, by decide⟩
def DoQ (B : Nat) (w : World) (D : Nat) (x' : VW) (o : OW) (dv : Value) (pn po : Int) (e : Ending) (w' : World) : Prop := e = .returned (.tuple #[]) ∧ (∃ u' us', DrV B w' D x' u' us' o dv pn po) ∧ BelK B w w'
/-! ### blocks -/
theorem row_kind {w : World} {g : Nat} {a b : Array Value} {s t : TypeId} {f f' : Nat × Nat} (h : w.heap[g]? = some (.cells a s f)) (k : w.heap[g]? = some (.cells b t f')) : s = t := by
 rw [h] at k
 simp only [Option.some.injEq, Obj.cells.injEq] at k
 exact k.2.1
theorem OwV.blk {B : Nat} {w : World} {u : Value} {vs : List PV} {us : List Value} (h : OwV B w u vs us) {g : Nat} (hg : u.ownBlock = some g) : B ≤ g ∧ g < w.heap.size ∧ ∃ cur, w.heap[g]? = some (.cells cur 38 (0, 0)) := own_blk h.row hg
theorem OwV.lst {B : Nat} {w : World} {u : Value} {vs : List PV} {us : List Value} (h : OwV B w u vs us) {i : Nat} (hi : i < us.length) {g : Nat} (hg : us[i].ownBlock = some g) : B ≤ g ∧ g < w.heap.size ∧ ∃ cur, w.heap[g]? = some (.cells cur 78 (0, 0)) :=
 own_blk (h.dat i (by rw [← h.len]; exact hi)) hg
theorem DrV.ne {B : Nat} {w : World} {D : Nat} {x : VW} {u : Value} {us : List Value} {o : OW} {dv : Value} {pn po : Int} (h : DrV B w D x u us o dv pn po) : u.ownBlock ≠ some D ∧ ∀ i (hi : i < us.length), us[i].ownBlock ≠ some D := by
 refine ⟨fun e => ?_, fun i hi e => ?_⟩
 ·obtain ⟨_, _, cur, hc⟩ := h.ow.blk e
  exact absurd (row_kind hc h.dr) (by decide)
 ·obtain ⟨_, _, cur, hc⟩ := h.ow.lst hi e
  exact absurd (row_kind hc h.dr) (by decide)
theorem OwV.ne {B : Nat} {w : World} {u : Value} {vs : List PV} {us : List Value} (h : OwV B w u vs us) {g : Nat} (hg : u.ownBlock = some g) {i : Nat} (hi : i < us.length) : us[i].ownBlock ≠ some g := fun e => by
 obtain ⟨_, _, c1, h1⟩ := h.blk hg
 obtain ⟨_, _, c2, h2⟩ := h.lst hi e
 exact absurd (row_kind h1 h2) (by decide)
/-! ### the draft's cells are written -/
theorem DrB.setU {w : World} {D : Nat} {x x' : VW} {u u' : Value} {o : OW} {dv : Value} {pn po : Int} (h : DrB w D x u o dv pn po) (h1 : x'.cp = x.cp) (h2 : x'.fr = x.fr) (h3 : x'.nx = x.nx) : DrB (w.setCell ⟨D, 3, none⟩ u') D x' u' o dv pn po := by
 unfold DrB at *
 rw [h1, h2, h3]
 simp [World.setCell, Array.getElem?_modify, h]
theorem DrB.setN {w : World} {D : Nat} {x x' : VW} {u : Value} {o : OW} {dv : Value} {pn po z : Int} (h : DrB w D x u o dv pn po) (h1 : x'.cp = x.cp) (h2 : x'.fr = x.fr) (h3 : x'.nx = z) : DrB (w.setCell ⟨D, 2, none⟩ (.int .i64 z)) D x' u o dv pn po := by
 unfold DrB at *
 rw [h1, h2, h3]
 simp [World.setCell, Array.getElem?_modify, h]
theorem DrB.setC {w : World} {D : Nat} {x x' : VW} {u : Value} {o : OW} {dv : Value} {pn po z : Int} (h : DrB w D x u o dv pn po) (h1 : x'.cp = z) (h2 : x'.fr = x.fr) (h3 : x'.nx = x.nx) : DrB (w.setCell ⟨D, 0, none⟩ (.int .i64 z)) D x' u o dv pn po := by
 unfold DrB at *
 rw [h1, h2, h3]
 simp [World.setCell, Array.getElem?_modify, h]
theorem own_set {B : Nat} {e : TypeId} {n m : Nat} {w : World} {v : Value} {xs : List Value} (h : w.ownsRow B e n v m xs) {p : Addr} (hp : v.ownBlock ≠ some p.block) (z : Value) : (w.setCell p z).ownsRow B e n v m xs :=
 own_keep h fun g hg => Below.heap_setCell _ _ _ _ (fun e => hp (by rw [hg, e]))
theorem OwV.set {B : Nat} {w : World} {u : Value} {vs : List PV} {us : List Value} (h : OwV B w u vs us) {p : Addr} (hp : u.ownBlock ≠ some p.block) (hq : ∀ i (hi : i < us.length), us[i].ownBlock ≠ some p.block) (z : Value) : OwV B (w.setCell p z) u vs us :=
 ⟨h.len, own_set h.row hp z, fun i hi => own_set (h.dat i hi) (hq i (by rw [h.len]; exact hi)) z⟩
/-! ### a volume more, at its place -/
def layP (vs : List PV) (v : PV) : List PV := vs.take (layI vs v.nm) ++ [v] ++ vs.drop (layI vs v.nm)
theorem flatV_take : ∀ (vs : List PV) (us : List Value), us.length = vs.length → ∀ k, flatV (vs.take k) (us.take k) = (flatV vs us).take (k * 7)
 | [], [], _, k => by simp [flatV]
 | [], _ :: _, h, _ => by simp at h
 | _ :: _, [], h, _ => by simp at h
 | v :: vs, u :: us, h, 0 => by simp [flatV]
 | v :: vs, u :: us, h, k + 1 => by
  have ih := flatV_take vs us (by simpa using h) k
  rw [List.take_succ_cons, List.take_succ_cons, flatV, flatV, ih, show (k + 1) * 7 = (cells7 v u).length + k * 7 by show _ = 7 + _; omega, List.take_length_add_append]
theorem flatV_drop : ∀ (vs : List PV) (us : List Value), us.length = vs.length → ∀ k, flatV (vs.drop k) (us.drop k) = (flatV vs us).drop (k * 7)
 | [], [], _, k => by simp [flatV]
 | [], _ :: _, h, _ => by simp at h
 | _ :: _, [], h, _ => by simp at h
 | v :: vs, u :: us, h, 0 => by simp [flatV]
 | v :: vs, u :: us, h, k + 1 => by
  have ih := flatV_drop vs us (by simpa using h) k
  rw [List.drop_succ_cons, List.drop_succ_cons, ih, flatV, show (k + 1) * 7 = (cells7 v u).length + k * 7 by show _ = 7 + _; omega, List.drop_length_add_append]
theorem flatV_app2 : ∀ (a b : List PV) (us vs : List Value), us.length = a.length → flatV (a ++ b) (us ++ vs) = flatV a us ++ flatV b vs
 | [], b, [], vs, _ => by simp [flatV]
 | [], _, _ :: _, _, h => by simp at h
 | _ :: _, _, [], _, h => by simp at h
 | p :: a, b, u :: us, vs, h => by
  have ih := flatV_app2 a b us vs (by simpa using h)
  simp only [List.cons_append, flatV, ih, List.append_assoc]
theorem flatV_ins (vs : List PV) (us : List Value) (h : us.length = vs.length) (k : Nat) (v : PV) (u : Value) : flatV (vs.take k ++ [v] ++ vs.drop k) (us.take k ++ [u] ++ us.drop k) = (flatV vs us).take (k * 7) ++ cells7 v u ++ (flatV vs us).drop (k * 7) := by
 rw [flatV_app2 _ _ _ _ (by simp [h]), flatV_app2 _ _ _ _ (by simp [h]), flatV_take vs us h, flatV_drop vs us h]
 simp [flatV]
theorem flatV_del (vs : List PV) (us : List Value) (h : us.length = vs.length) (k : Nat) : flatV (vs.eraseIdx k) (us.eraseIdx k) = (flatV vs us).take (k * 7) ++ (flatV vs us).drop (k * 7 + 7) := by
 rw [List.eraseIdx_eq_take_drop_succ, List.eraseIdx_eq_take_drop_succ, flatV_app2 _ _ _ _ (by simp [h]), flatV_take vs us h, flatV_drop vs us h, show (k + 1) * 7 = k * 7 + 7 by omega]
theorem get_ins {α : Type} {us : List α} {k : Nat} {u : α} (hk : k ≤ us.length) (i : Nat) (hi : i < (us.take k ++ [u] ++ us.drop k).length) :
  (i < k ∧ ∃ h : i < us.length, (us.take k ++ [u] ++ us.drop k)[i] = us[i]) ∨ (i = k ∧ (us.take k ++ [u] ++ us.drop k)[i] = u) ∨ (k < i ∧ ∃ h : i - 1 < us.length, (us.take k ++ [u] ++ us.drop k)[i] = us[i - 1]) := by
 have hl : (us.take k).length = k := by simp; omega
 have hl2 : (us.take k ++ [u] ++ us.drop k).length = us.length + 1 := by simp; omega
 rcases Nat.lt_trichotomy i k with h | h | h
 ·refine .inl ⟨h, by omega, ?_⟩
  rw [List.getElem_append_left (by simp; omega), List.getElem_append_left (by omega), List.getElem_take]
 ·refine .inr (.inl ⟨h, ?_⟩)
  subst h
  rw [List.getElem_append_left (by simp; omega), List.getElem_append_right (by omega)]
  simp
 ·refine .inr (.inr ⟨h, by omega, ?_⟩)
  rw [List.getElem_append_right (by simp; omega), List.getElem_drop]
  congr 1
  simp
  omega
theorem Ap.ins {us : List Value} (h : Ap us) {k : Nat} (hk : k ≤ us.length) {u : Value} (hu : ∀ i (hi : i < us.length) g, us[i].ownBlock = some g → u.ownBlock ≠ some g) : Ap (us.take k ++ [u] ++ us.drop k) := by
 intro i j hi hj g h1 h2
 rcases get_ins hk i hi with ⟨a1, a2, a3⟩ | ⟨a1, a3⟩ | ⟨a1, a2, a3⟩ <;> rcases get_ins hk j hj with ⟨b1, b2, b3⟩ | ⟨b1, b3⟩ | ⟨b1, b2, b3⟩ <;> rw [a3] at h1 <;> rw [b3] at h2
 ·exact h i j a2 b2 g h1 h2
 ·exact absurd h2 (hu _ a2 g h1)
 ·have := h i (j - 1) a2 b2 g h1 h2
  omega
 ·exact absurd h1 (hu _ b2 g h2)
 ·omega
 ·exact absurd h1 (hu _ b2 g h2)
 ·have := h (i - 1) j a2 b2 g h1 h2
  omega
 ·exact absurd h2 (hu _ a2 g h1)
 ·have := h (i - 1) (j - 1) a2 b2 g h1 h2
  omega
theorem Ap.set {us : List Value} (h : Ap us) (k : Nat) {u : Value} (hu : ∀ i (hi : i < us.length) g, i ≠ k → us[i].ownBlock = some g → u.ownBlock ≠ some g) : Ap (us.set k u) := by
 intro i j hi hj g h1 h2
 rw [List.getElem_set] at h1 h2
 rw [List.length_set] at hi hj
 by_cases e1 : k = i
 ·by_cases e2 : k = j
  ·omega
  ·rw [if_pos e1] at h1
   rw [if_neg e2] at h2
   exact absurd h1 (hu j hj g (by omega) h2)
 ·rw [if_neg e1] at h1
  by_cases e2 : k = j
  ·rw [if_pos e2] at h2
   exact absurd h2 (hu i hi g (by omega) h1)
  ·rw [if_neg e2] at h2
   exact h i j hi hj g h1 h2
theorem Ap.erase {us : List Value} (h : Ap us) (k : Nat) : Ap (us.eraseIdx k) := by
 intro i j hi hj g h1 h2
 rw [List.getElem_eraseIdx] at h1 h2
 have hl := List.length_eraseIdx_le us k
 split at h1 <;> split at h2
 ·exact h _ _ _ _ g h1 h2
 ·have := h _ _ _ _ g h1 h2; omega
 ·have := h _ _ _ _ g h1 h2; omega
 ·have := h _ _ _ _ g h1 h2; omega
theorem OwV.ins {B : Nat} {w w' : World} {u v' : Value} {vs : List PV} {us : List Value} {L : Nat} {v : PV} {uv : Value} (h : OwV B w u vs us) (hL : L ≤ vs.length) (hd : OwR B w uv v.mp) (hr : w'.ownsRow B 38 7 v' (vs.length + 1) ((flatV vs us).take (L * 7) ++ cells7 v uv ++ (flatV vs us).drop (L * 7)))
  (hk : ∀ g, g < w.heap.size → (∃ cur, w.heap[g]? = some (.cells cur 78 (0, 0))) → w'.heap[g]? = w.heap[g]?) : OwV B w' v' (vs.take L ++ [v] ++ vs.drop L) (us.take L ++ [uv] ++ us.drop L) := by
 have keep : ∀ {z : Value} {rs : List Rg}, OwR B w z rs → OwR B w' z rs := fun {z rs} hz => own_keep hz fun g hg => hk g (own_blk hz hg).2.1 (own_blk hz hg).2.2
 have hl := h.len
 refine ⟨by simp; omega, ?_, fun i hi => ?_⟩
 ·rw [flatV_ins vs us hl, show (vs.take L ++ [v] ++ vs.drop L).length = vs.length + 1 by simp; omega]
  exact hr
 ·have hi2 : i < (us.take L ++ [uv] ++ us.drop L).length := by simp at hi ⊢; omega
  rcases get_ins hL i hi with ⟨a1, a2, a3⟩ | ⟨a1, a3⟩ | ⟨a1, a2, a3⟩ <;> rcases get_ins (u := uv) (us := us) (by omega : L ≤ us.length) i hi2 with ⟨b1, b2, b3⟩ | ⟨b1, b3⟩ | ⟨b1, b2, b3⟩
  ·rw [a3, b3]; exact keep (h.dat i a2)
  ·omega
  ·omega
  ·omega
  ·rw [a3, b3]; exact keep hd
  ·omega
  ·omega
  ·omega
  ·rw [a3, b3]; exact keep (h.dat (i - 1) a2)
end Go.Proofs.YtddddfankeepkaaGreatDoor
namespace Go.Proofs.YtddddfankeepkaaGreatDoor
open Go.RowKit
theorem own_some {B : Nat} {e : TypeId} {n m : Nat} {w : World} {v : Value} {xs : List Value} (h : w.ownsRow B e n v (m + 1) xs) : ∃ g c, v = .slice (some ⟨g, 0, none⟩) (m + 1) c := by
 rcases own_form h with ⟨_, q⟩ | ⟨g, c, e, _⟩
 ·omega
 ·exact ⟨g, c, e⟩
theorem undrew {w y : World} (h : Below w.drew.heap.size w.drew y) : Below w.heap.size w y := ⟨h.os, h.tape, h.output, h.size, h.block⟩
set_option maxRecDepth 100000 in
set_option maxHeartbeats 8000000 in
theorem lay_any (B D : Nat) (x : VW) (u : Value) (us : List Value) (o : OW) (dv : Value) (pn po : Int) (v : PV) (va : Option Addr) (vc : Nat) (w : World) (H : DrV B w D x u us o dv pn po) (hd : OwR B w (.slice va v.mp.length vc) v.mp) (hap : ∀ i (hi : i < us.length) g, us[i].ownBlock = some g → (Value.slice va v.mp.length vc).ownBlock ≠ some g) (hl : x.vs.length ≤ 16777215) (hB : B ≤ w.heap.size) :
  Calls Tryz.prog 97 #[.pointer (some ⟨D, 0, none⟩), volA v va vc] w fun e w' => DoQ B w D { x with vs := layP x.vs v } o dv pn po e w' := by
 obtain ⟨a, c, rfl, hR, hac⟩ := H.ow.rd
 obtain ⟨P, hP⟩ : ∃ P, P = w.heap.size := ⟨_, rfl⟩
 obtain ⟨W1, hW1⟩ : ∃ W1, W1 = w.alloc (.cells #[.string v.nm, .int .i64 v.id, .int .i64 v.sz, .int .i64 v.og, .int .i64 v.kd, .bool v.pt, .slice va v.mp.length vc] 38) := ⟨_, rfl⟩
 have b1 : Below w.heap.size w W1 := by rw [hW1]; exact below1 _ _
 have hV1 : VoB W1 P v (.slice va v.mp.length vc) := by rw [hW1, hP]; exact heap_new _ _
 have H1 := H.next b1
 have hDP : D < P := by rw [hP]; exact H.dr.lt
 obtain ⟨⟨p0, _, _, _, _, _, _⟩, _⟩ := hV1.cs
 obtain ⟨_, _, _, k3, _⟩ := H1.dr.cs
 have hP1 := hV1.lt
 have hD1 := H1.dr.lt
 have HBin := hid (show Calls Tryz.prog 116 #[.slice a x.vs.length c, .string v.nm, .func (.func 114) #[] #[]] W1.drew fun e w' => BinQ W1.drew (layI x.vs v.nm) e w' from Bin_any a c x.vs v.nm W1.drew (by omega) ((hR.below b1).mono b1.size))
 have HK : Hid (∀ y, Below W1.drew.heap.size W1.drew y → y.cell? ⟨D, 3, none⟩ = some (.slice a x.vs.length c) ∧ y.cell? ⟨P, 0, none⟩ = some (.string v.nm)) := fun y hy => ⟨(hy.cell (by exact hD1)).trans k3, (hy.cell (by exact hP1)).trans p0⟩
 have HR : Hid (∀ w2, Below W1.drew.heap.size W1.drew w2 → DrV B w2 D x (.slice a x.vs.length c) us o dv pn po ∧ VoB w2 P v (.slice va v.mp.length vc) ∧ Below w.heap.size w w2 ∧ OwR B w2 (.slice va v.mp.length vc) v.mp) := fun w2 hy => by
  have hb2 : Below W1.heap.size W1 w2 := undrew hy
  have hb : Below w.heap.size w w2 := b1.trans (hb2.mono b1.size)
  exact ⟨H.next hb, hV1.keep (hb2.block _ hP1), hb, own_next hd hb⟩
 have HI := hid (layI_le x.vs v.nm)
 have HW1 := hid hW1
 have HP := hid hP
 have HX : Hid ({ x with vs := layP x.vs v } = (⟨x.cp, x.fr, x.nx, x.vs.take (layI x.vs v.nm) ++ [v] ++ x.vs.drop (layI x.vs v.nm)⟩ : VW)) := rfl
 rw [HX.out]
 have HAp := hid hap
 have HBB := hid hB
 have HPN : Hid ((Value.slice a x.vs.length c).ownBlock ≠ some P) := hid (fun e => by
  have := (H.ow.blk e).2.1
  omega)
 have hlen := H.ow.len
 generalize layI x.vs v.nm = L at *
 obtain ⟨ln, hn⟩ : ∃ ln, x.vs.length = ln := ⟨_, rfl⟩
 rw [hn] at HBin HK k3 HI hl
 have HN := hid hn
 have HLn := hid hlen
 clear H H1 hR hW1 hP hV1 b1 hn hac hap hd hlen HX
 obtain ⟨nm, hnm⟩ : ∃ nm, v.nm = nm := ⟨_, rfl⟩
 have HNM := hid hnm
 rw [hnm] at p0 HBin HK
 clear hnm
 have mixed : Tryz.prog.follows Departure.mixedOrders = true := by kernel_rfl
 have hR' := HN.out
 dsimp only [volA]
 have HAG : Hid ((Value.slice a x.vs.length c) = Value.slice a ln c) := by rw [hR']; exact rfl
 clear hR'
 go_enter Tryz.func97, Tryz.ntmps97
 go_wp2_with fail
 rw [← HW1.out, ← HP.out]
 refine Gz (S := (fun y => y.cell? ⟨D, 3, none⟩ = some (.slice a ln c) ∧ y.cell? ⟨P, 0, none⟩ = some (.string nm))) ⟨k3, p0⟩ (fun hSS => ?_)
 refine Ti 0 rfl ?_
 refine Ti 1 rfl ?_
 refine Ti 2 rfl ?_
 refine Ti 3 rfl ?_
 try simp only [Act.put, zA, zB, zC]
 refine Ti 4 rfl ?_
 refine Ti 5 rfl ?_
 refine Ti 6 rfl ?_
 refine Ti 7 rfl ?_
 try simp only [Act.put, zA, zB, zC]
 refine Ri 8 rfl (fun K9 hK9 => ?_)
 go_simp
 go_at_call 116
 refine HBin.out.mono ?_
 rintro e w2 ⟨bb, rfl, hb2⟩
 refine hK9.out _ _ (HK.out w2 hb2) (fun hSS => ?_)
 try simp only [Act.put, zA, zB, zC]
 refine Ti 9 rfl ?_
 try simp only [Act.put, zA, zB, zC]
 refine Ti 10 rfl ?_
 refine Ti 11 rfl ?_
 refine Ti 12 rfl ?_
 refine Ti 13 rfl ?_
 try simp only [Act.put, zA, zB, zC]
 refine Dn ?_
 obtain ⟨H2, hV2, hb, hd2⟩ := HR.out w2 hb2
 rw [HAG.out] at H2
 clear HR HBin HK k3 p0 hSS hP1 hD1
 have HH2 := hid H2
 have HV2 := hid hV2
 have HB2 := hid hb
 have HD2 := hid hd2
 obtain ⟨⟨m0, m1, m2, m3, m4, m5, m6⟩, _⟩ := hV2.cs
 obtain ⟨_, _, _, l3, _⟩ := H2.dr.cs
 rw [HNM.out] at m0
 have hP2 := hV2.lt
 have hD2 := H2.dr.lt
 obtain ⟨W3, hW3⟩ : ∃ W3, W3 = (w2.alloc (.cells #[.string nm, .int .i64 v.id, .int .i64 v.sz, .int .i64 v.og, .int .i64 v.kd, .bool v.pt, .slice va v.mp.length vc] 38)).drew := ⟨_, rfl⟩
 have b3 : Below w2.heap.size w2 W3 := by rw [hW3]; exact below_dr (below1 _ _)
 have hN3 : W3.heap[w2.heap.size]? = some (.cells (cells7 v (.slice va v.mp.length vc)).toArray 38 (0, 0)) := by
  rw [hW3, ← HNM.out]
  exact heap_new w2 _
 have H3 := H2.next b3
 have hrow := H3.ow.row
 rw [HN.out] at hrow
 have HIns := hid (InsV_any B ln w2.heap.size L (.slice a ln c) (flatV x.vs us) (cells7 v (.slice va v.mp.length vc)) W3 hrow hN3 (fun e => by have := (H2.ow.blk e).2.1; omega) rfl (by
  intro z hz
  simp only [cells7, List.mem_cons, List.not_mem_nil, or_false] at hz
  rcases hz with rfl | rfl | rfl | rfl | rfl | rfl | rfl <;> rfl) (by
  intro z hz
  obtain ⟨k, hk⟩ := List.getElem?_of_mem hz
  have hk' : k < (flatV x.vs us).length := (List.getElem?_eq_some_iff.1 hk).1
  rw [flatV_len _ _ HLn.out] at hk'
  have hj : k / 7 < x.vs.length := by omega
  have h1 := flatV_at x.vs us HLn.out (k / 7) hj (k % 7) (by omega)
  rw [show k / 7 * 7 + k % 7 = k by omega, hk] at h1
  have hu : (us[k / 7]'(by have := HLn.out; omega)).oneCell' = true := by
   rcases own_form (H2.ow.dat (k / 7) hj) with ⟨e, _⟩ | ⟨_, _, e, _⟩ <;> rw [e] <;> rfl
  rcases (show k % 7 = 0 ∨ k % 7 = 1 ∨ k % 7 = 2 ∨ k % 7 = 3 ∨ k % 7 = 4 ∨ k % 7 = 5 ∨ k % 7 = 6 by omega) with h | h | h | h | h | h | h <;> rw [h] at h1 <;> simp [cells7] at h1 <;> first | (subst h1; rfl) | (rw [h1]; exact hu)) (by have := HI.out; omega) (by omega) (by have := hb.size; have := b3.size; omega))
 have HK3 : Hid (W3.cell? ⟨D, 3, none⟩ = some (.slice a ln c) ∧ W3.cell? ⟨P, 0, none⟩ = some (.string nm) ∧ W3.cell? ⟨P, 1, none⟩ = some (.int .i64 v.id) ∧ W3.cell? ⟨P, 2, none⟩ = some (.int .i64 v.sz) ∧ W3.cell? ⟨P, 3, none⟩ = some (.int .i64 v.og) ∧ W3.cell? ⟨P, 4, none⟩ = some (.int .i64 v.kd) ∧ W3.cell? ⟨P, 5, none⟩ = some (.bool v.pt) ∧ W3.cell? ⟨P, 6, none⟩ = some (.slice va v.mp.length vc)) := ⟨(b3.cell (by exact hD2)).trans l3, (b3.cell (by exact hP2)).trans m0, (b3.cell (by exact hP2)).trans m1, (b3.cell (by exact hP2)).trans m2, (b3.cell (by exact hP2)).trans m3, (b3.cell (by exact hP2)).trans m4, (b3.cell (by exact hP2)).trans m5, (b3.cell (by exact hP2)).trans m6⟩
 have hPk := HPN.out
 rw [HAG.out] at hPk
 have HK4 : Hid (∀ w4, W3.grownBy w4 (Value.slice a ln c).ownBlock → w4.cell? ⟨D, 3, none⟩ = some (.slice a ln c) ∧ w4.cell? ⟨P, 0, none⟩ = some (.string nm) ∧ w4.cell? ⟨P, 1, none⟩ = some (.int .i64 v.id) ∧ w4.cell? ⟨P, 2, none⟩ = some (.int .i64 v.sz) ∧ w4.cell? ⟨P, 3, none⟩ = some (.int .i64 v.og) ∧ w4.cell? ⟨P, 4, none⟩ = some (.int .i64 v.kd) ∧ w4.cell? ⟨P, 5, none⟩ = some (.bool v.pt) ∧ w4.cell? ⟨P, 6, none⟩ = some (.slice va v.mp.length vc)) := fun w4 hg => by
  have hk : ∀ g, g < w2.heap.size → (Value.slice a ln c).ownBlock ≠ some g → ∀ i, w4.cell? ⟨g, i, none⟩ = W3.cell? ⟨g, i, none⟩ := fun g hgl hne i => by
   have := hg.block g (Nat.lt_of_lt_of_le hgl b3.size) (fun e => hne e.symm)
   simp only [World.cell?, this]
  have kD := hk D hD2 H2.ne.1
  have kP := hk P hP2 hPk
  obtain ⟨z0, z1, z2, z3, z4, z5, z6, z7⟩ := HK3.out
  exact ⟨(kD 3).trans z0, (kP 0).trans z1, (kP 1).trans z2, (kP 2).trans z3, (kP 3).trans z4, (kP 4).trans z5, (kP 5).trans z6, (kP 6).trans z7⟩
 have HF : Hid (∀ v' w4 y, w4.ownsRow B 38 7 v' (ln + 1) ((flatV x.vs us).take (L * 7) ++ cells7 v (.slice va v.mp.length vc) ++ (flatV x.vs us).drop (L * 7)) → W3.grownBy w4 (Value.slice a ln c).ownBlock → y = w4.setCell ⟨D, 3, none⟩ v' → (∃ u' us', DrV B y D ⟨x.cp, x.fr, x.nx, x.vs.take L ++ [v] ++ x.vs.drop L⟩ u' us' o dv pn po) ∧ BelK B w y ∧ y.frozen? ⟨D, 3, none⟩ = false) := fun v' w4 y hr hg hy => by
  have hgD : w4.heap[D]? = w2.heap[D]? := (hg.block D (Nat.lt_of_lt_of_le hD2 b3.size) (fun e => H2.ne.1 e.symm)).trans (b3.block D hD2)
  have hdr := H2.dr.keep hgD
  have hy2 : ∀ g, g ≠ D → y.heap[g]? = w4.heap[g]? := fun g hgd => by rw [hy]; exact Below.heap_setCell _ _ _ _ hgd
  have hrow4 : y.ownsRow B 38 7 v' (x.vs.length + 1) ((flatV x.vs us).take (L * 7) ++ cells7 v (.slice va v.mp.length vc) ++ (flatV x.vs us).drop (L * 7)) := by
   rw [HN.out]
   refine own_keep hr fun g hgb => hy2 g (fun e => ?_)
   obtain ⟨_, _, cur, hc⟩ := own_blk hr hgb
   rw [e] at hc
   exact absurd (row_kind hc hdr) (by decide)
  refine ⟨⟨v', us.take L ++ [.slice va v.mp.length vc] ++ us.drop L, by rw [hy]; exact hdr.setU rfl rfl rfl, H2.ow.ins (by have := HI.out; have := HN.out; omega) hd2 hrow4 (fun g hgl ⟨cur, hc⟩ => ?_), H2.ap.ins (by have := HI.out; have := HN.out; have := HLn.out; omega) HAp.out, H2.hD⟩, ?_, ?_⟩
  ·have hgD2 : g ≠ D := fun e => by rw [e] at hc; exact absurd (row_kind hc H2.dr) (by decide)
   rw [hy2 g hgD2, hg.block g (Nat.lt_of_lt_of_le hgl b3.size) (fun e => ?_), b3.block g hgl]
   obtain ⟨_, _, cur', hc'⟩ := H2.ow.blk e.symm
   exact absurd (row_kind hc hc') (by decide)
  ·have hbB : B ≤ w.heap.size := HBB.out
   have h1 : BelK B w W3 := BelK.low (hb.trans (b3.mono hb.size)) rfl hbB
   have h2 : BelK B W3 w4 := BelK.grown hg (Nat.le_trans hbB h1.size) (fun g e => KdOk.own H3.ow.row e (by decide) (by decide))
   rw [hy]
   exact (h1.trans h2).set (p := ⟨D, 3, none⟩) H2.hD ⟨_, _, _, hdr, by decide, by decide⟩ v'
  ·rw [hy]
   simp only [World.frozen?]
   have : (w4.setCell ⟨D, 3, none⟩ v').heap[D]? = some (.cells _ 73 (0, 0)) := hdr.setU (x' := x) (u' := v') rfl rfl rfl
   rw [this]
   simp
 have HFz : Hid (∀ w4, W3.grownBy w4 (Value.slice a ln c).ownBlock → w4.frozen? ⟨D, 3, none⟩ = false) := fun w4 hg => by
  have hgD : w4.heap[D]? = w2.heap[D]? := (hg.block D (Nat.lt_of_lt_of_le hD2 b3.size) (fun e => H2.ne.1 e.symm)).trans (b3.block D hD2)
  exact (H2.dr.keep hgD).fz 3
 have HW3 := hid hW3
 clear H2 hV2 hb hd2 b3 hN3 H3 hrow hW3 hPk hb2
 go_wp2_with fail
 refine wp_region_last (S := (fun y => y.cell? ⟨D, 3, none⟩ = some (.slice a ln c) ∧ y.cell? ⟨P, 0, none⟩ = some (.string nm) ∧ y.cell? ⟨P, 1, none⟩ = some (.int .i64 v.id) ∧ y.cell? ⟨P, 2, none⟩ = some (.int .i64 v.sz) ∧ y.cell? ⟨P, 3, none⟩ = some (.int .i64 v.og) ∧ y.cell? ⟨P, 4, none⟩ = some (.int .i64 v.kd) ∧ y.cell? ⟨P, 5, none⟩ = some (.bool v.pt) ∧ y.cell? ⟨P, 6, none⟩ = some (.slice va v.mp.length vc))) 13 13 (by kernel_rfl) (by kernel_rfl) (by kernel_rfl) ⟨l3, m0, m1, m2, m3, m4, m5, m6⟩ (fun hSS => ?_)
 refine Ti 0 rfl ?_
 try simp only [Act.put, zA, zB, zC]
 refine Ti 1 rfl ?_
 refine Ti 2 rfl ?_
 refine Ti 3 rfl ?_
 refine Ti 4 rfl ?_
 try simp only [Act.put, zA, zB, zC]
 refine Ti 5 rfl ?_
 refine Ti 6 rfl ?_
 refine Ti 7 rfl ?_
 try simp only [Act.put, zA, zB, zC]
 refine Ri 8 rfl (fun K9 hK9 => ?_)
 go_simp
 refine hK9.out _ _ (by have q := HK3.out; rw [HW3.out] at q; exact q) (fun hSS => ?_)
 try simp only [Act.put, zA, zB, zC]
 refine Ri 9 rfl (fun K9 hK9 => ?_)
 go_simp
 go_at_call 117
 rw [← HW3.out]
 refine HIns.out.mono ?_
 rintro e w4 ⟨v', rfl, hq1, hq2⟩
 obtain ⟨g4, c4, rfl⟩ := own_some hq1
 have HF4 := hid (fun y => HF.out _ w4 y hq1 hq2)
 have fz := HFz.out w4 hq2
 have k3 := (HK4.out w4 hq2).1
 refine hK9.out _ _ (HK4.out w4 hq2) (fun hSS => ?_)
 try simp only [Act.put, zA, zB, zC]
 refine Ti 10 rfl ?_
 refine Ti 11 rfl ?_
 try simp only [Act.put, zA, zB, zC]
 refine Ti 12 rfl ?_
 try simp only [Act.put, zA, zB, zC]
 refine Dn ?_
 refine last_step (L := 13) (o := ({ dst := none, op := Op.store 22 (Operand.tmp 31) (Operand.tmp 28), type := 0, pos := _, after := _, guard := none } : Oper)) rfl (fun K9 hK9 => ?_)
 go_simp
 refine hK9.out _ _ ?_
 try simp only [Act.put, zA, zB, zC]
 go_wp2
 go_end0
 obtain ⟨h1, h2, _⟩ := HF4.out _ rfl
 exact ⟨rfl, h1, h2⟩
end Go.Proofs.YtddddfankeepkaaGreatDoor
namespace Go.Proofs.YtddddfankeepkaaGreatDoor
open Go.RowKit
def nmd2 (v : PV) (nm : ByteArray) (id : Int) : PV := ⟨nm, id, v.sz, v.og, v.kd, v.pt, v.mp⟩
def addP (x : VW) (o : OW) (v : PV) : VW := ⟨x.cp, x.fr, wrap64 (x.nx + 1), layP x.vs (nmd2 v o.nm x.nx)⟩
theorem VoB.setNI {w : World} {R : Nat} {v : PV} {u : Value} (h : VoB w R v u) (nm : ByteArray) (id : Int) : VoB ((w.setCell ⟨R, 0, none⟩ (.string nm)).setCell ⟨R, 1, none⟩ (.int .i64 id)) R (nmd2 v nm id) u := by
 unfold VoB nmd2 at *
 simp [World.setCell, Array.getElem?_modify, h, cells7]
set_option maxRecDepth 100000 in
set_option maxHeartbeats 8000000 in
theorem add_any (B D : Nat) (x : VW) (u : Value) (us : List Value) (o : OW) (dv : Value) (pn po : Int) (v : PV) (va : Option Addr) (vc : Nat) (w : World) (H : DrV B w D x u us o dv pn po) (hd : OwR B w (.slice va v.mp.length vc) v.mp) (hap : ∀ i (hi : i < us.length) g, us[i].ownBlock = some g → (Value.slice va v.mp.length vc).ownBlock ≠ some g) (hl : x.vs.length ≤ 16777215) (hB : B ≤ w.heap.size) :
  Calls Tryz.prog 94 #[.pointer (some ⟨D, 0, none⟩), volA v va vc] w fun e w' => DoQ B w D (addP x o v) o dv pn po e w' := by
 obtain ⟨P, hP⟩ : ∃ P, P = w.heap.size := ⟨_, rfl⟩
 obtain ⟨W1, hW1⟩ : ∃ W1, W1 = w.alloc (.cells #[.string v.nm, .int .i64 v.id, .int .i64 v.sz, .int .i64 v.og, .int .i64 v.kd, .bool v.pt, .slice va v.mp.length vc] 38) := ⟨_, rfl⟩
 have b1 : Below w.heap.size w W1 := by rw [hW1]; exact below1 _ _
 have hV1 : VoB W1 P v (.slice va v.mp.length vc) := by rw [hW1, hP]; exact heap_new _ _
 have H1 := H.next b1
 have hDP : D ≠ P := by have := H.dr.lt; omega
 obtain ⟨⟨p0, p1, _, _, _, _, _⟩, pf⟩ := hV1.cs
 have f0 := pf 0
 have f1 := pf 1
 obtain ⟨_, _, k2, _, _, k5, _⟩ := H1.dr.cs
 have HK1 : Hid ((W1.setCell ⟨P, 0, none⟩ (.string o.nm)).cell? ⟨D, 5, none⟩ = some (.string o.nm) ∧ (W1.setCell ⟨P, 0, none⟩ (.string o.nm)).cell? ⟨D, 2, none⟩ = some (.int .i64 x.nx)) := ⟨(World.cell?_setCell_far W1 ⟨P, 0, none⟩ ⟨D, 5, none⟩ _ (Ne.symm hDP)).trans k5, (World.cell?_setCell_far W1 ⟨P, 0, none⟩ ⟨D, 2, none⟩ _ (Ne.symm hDP)).trans k2⟩
 obtain ⟨W2, hW2⟩ : ∃ W2, W2 = ((W1.setCell ⟨P, 0, none⟩ (.string o.nm)).setCell ⟨P, 1, none⟩ (.int .i64 x.nx)).drew := ⟨_, rfl⟩
 have b2 : Below w.heap.size w W2 := by rw [hW2]; exact below_dr ((b1.setCell (p := ⟨P, 0, none⟩) (by rw [hP]; exact Nat.le_refl _) _).setCell (p := ⟨P, 1, none⟩) (by rw [hP]; exact Nat.le_refl _) _)
 have hV2 : VoB W2 P (nmd2 v o.nm x.nx) (.slice va v.mp.length vc) := by rw [hW2]; exact hV1.setNI o.nm x.nx
 have H2 := H.next b2
 obtain ⟨W3, hW3⟩ : ∃ W3, W3 = W2.setCell ⟨D, 2, none⟩ (.int .i64 (wrap64 (x.nx + 1))) := ⟨_, rfl⟩
 have H3 : DrV B W3 D ⟨x.cp, x.fr, wrap64 (x.nx + 1), x.vs⟩ u us o dv pn po := by
  rw [hW3]
  exact ⟨H2.dr.setN rfl rfl rfl, H2.ow.set H2.ne.1 H2.ne.2 _, H2.ap, H2.hD⟩
 have hV3 : VoB W3 P (nmd2 v o.nm x.nx) (.slice va v.mp.length vc) := by rw [hW3]; exact hV2.keep (Below.heap_setCell _ _ _ _ (Ne.symm hDP))
 have hd3 : OwR B W3 (.slice va v.mp.length vc) v.mp := by
  rw [hW3]
  refine own_set (own_next hd b2) (fun e => ?_) _
  obtain ⟨_, _, cur, hc⟩ := own_blk hd e
  exact absurd (row_kind hc H.dr) (by decide)
 have b3 : BelK B w W3 := by
  have q : BelK B w W2 := BelK.low b2 rfl hB
  rw [hW3]
  exact q.set (p := ⟨D, 2, none⟩) H2.hD H2.kd _
 have HL := hid (lay_any B D ⟨x.cp, x.fr, wrap64 (x.nx + 1), x.vs⟩ u us o dv pn po (nmd2 v o.nm x.nx) va vc W3 H3 hd3 hap hl (by have := b3.size; omega))
 obtain ⟨_, _, l2, _⟩ := H2.dr.cs
 have l2f := H2.dr.fz 2
 obtain ⟨⟨m0, m1, m2, m3, m4, m5, m6⟩, _⟩ := hV2.cs
 have hPD : ¬ (P = D) := fun e => hDP e.symm
 have hPD2 : ¬ (D = P) := hDP
 have HX : Hid (({ (⟨x.cp, x.fr, wrap64 (x.nx + 1), x.vs⟩ : VW) with vs := layP x.vs (nmd2 v o.nm x.nx) } : VW) = addP x o v) := rfl
 have HB3 := hid b3
 have HW1 := hid hW1
 have HP := hid hP
 have HW2 := hid hW2
 have HW3 := hid hW3
 dsimp only [nmd2] at m0 m1 m2 m3 m4 m5 m6
 have mixed : Tryz.prog.follows Departure.mixedOrders = true := by kernel_rfl
 clear H H1 H2 H3 hd hd3 hap hl hB hP hW1 hW2 hW3 b1 b2 b3 hV1 hV2 hV3 pf
 dsimp only [volA]
 go_enter Tryz.func94, Tryz.ntmps94
 go_wp2_with fail
 rw [← HW1.out, ← HP.out]
 refine wp_region_last (S := (fun y => y.cell? ⟨D, 5, none⟩ = some (.string o.nm) ∧ y.cell? ⟨D, 2, none⟩ = some (.int .i64 x.nx))) 13 13 (by kernel_rfl) (by kernel_rfl) (by kernel_rfl) ⟨k5, k2⟩ (fun hSS => ?_)
 refine Ti 0 rfl ?_
 refine Ti 1 rfl ?_
 refine Ti 2 rfl ?_
 refine Ti 3 rfl ?_
 try simp only [Act.put, zA, zB, zC]
 refine Ti 4 rfl ?_
 refine Ti 5 rfl ?_
 refine Ti 6 rfl ?_
 refine Ti 7 rfl ?_
 try simp only [Act.put, zA, zB, zC]
 refine Ti 8 rfl ?_
 refine Ti 9 rfl ?_
 refine Ti 10 rfl ?_
 try simp only [Act.put, zA, zB, zC]
 refine Ri 11 rfl (fun K9 hK9 => ?_)
 go_simp
 refine hK9.out _ _ HK1.out (fun hSS => ?_)
 try simp only [Act.put, zA, zB, zC]
 refine Ti 12 rfl ?_
 try simp only [Act.put, zA, zB, zC]
 refine Dn ?_
 refine last_step (L := 13) (o := ({ dst := none, op := Op.store 3 (Operand.tmp 15) (Operand.tmp 13), type := 0, pos := _, after := _, guard := none } : Oper)) rfl (fun K9 hK9 => ?_)
 go_simp
 refine hK9.out _ _ ?_
 try simp only [Act.put, zA, zB, zC]
 rw [← HW2.out]
 go_wp2_with fail
 rw [← HW3.out]
 refine HL.out.mono ?_
 rintro e w5 ⟨rfl, h1, h2⟩
 have HQ : Hid (DoQ B w D (addP x o v) o dv pn po (.returned (.tuple #[])) w5) := ⟨rfl, h1, HB3.out.trans h2⟩
 clear h1 h2 HL
 go_wp2
 go_end0
 exact HQ.out
end Go.Proofs.YtddddfankeepkaaGreatDoor
namespace Go.Proofs.YtddddfankeepkaaGreatDoor
open Go.RowKit
theorem OwV.volc {B : Nat} {w : World} {u : Value} {vs : List PV} {us : List Value} (h : OwV B w u vs us) {k : Nat} (hk : k < vs.length) : ∃ g c a' c', u = .slice (some ⟨g, 0, none⟩) vs.length c ∧ u.ownBlock = some g ∧ us[k]'(by rw [h.len]; exact hk) = .slice a' vs[k].mp.length c' ∧ VolC w g (k * 7) vs[k] a' c' ∧ (a' = none → c' = 0) ∧ ∀ i, w.frozen? ⟨g, i, none⟩ = false := by
 rcases own_form h.row with ⟨_, q⟩ | ⟨g, c, rfl, hg⟩
 ·omega
 ·obtain ⟨a', c', e, _, hn⟩ := (h.dat k hk).rd
  have kk := World.ownsRow.cells h.row hg
  have key : ∀ i, i < 7 → ∀ z, (cells7 vs[k] (us[k]'(by rw [h.len]; exact hk)))[i]? = some z → w.cell? ⟨g, k * 7 + i, none⟩ = some z := fun i hi z hz => by
   have := kk (k * 7 + i) z (by rw [flatV_at vs us h.len k hk i hi]; exact hz)
   rw [Addr.add_lit] at this
   simpa [Nat.add_assoc] using this
  rw [e] at key
  obtain ⟨_, _, cur, hc⟩ := h.blk hg
  exact ⟨g, c, a', c', rfl, hg, e, ⟨key 0 (by omega) _ rfl, key 1 (by omega) _ rfl, key 2 (by omega) _ rfl, key 3 (by omega) _ rfl, key 4 (by omega) _ rfl, key 5 (by omega) _ rfl, key 6 (by omega) _ rfl⟩, hn, fun i => by simp [World.frozen?, hc]⟩
set_option maxRecDepth 100000 in
set_option maxHeartbeats 4000000 in
theorem create_any (B D : Nat) (x : VW) (u : Value) (us : List Value) (o : OW) (dv : Value) (pn po : Int) (w : World) (H : DrV B w D x u us o dv pn po) (hl : x.vs.length ≤ 16777215) (hB : B ≤ w.heap.size) :
  Calls Tryz.prog 60 #[.pointer (some ⟨D, 0, none⟩)] w fun e w' => DoQ B w D (addP x o ⟨ByteArray.empty, 0, o.tt, 0, 0, false, []⟩) o dv pn po e w' := by
 have HA := hid (add_any B D x u us o dv pn po ⟨ByteArray.empty, 0, o.tt, 0, 0, false, []⟩ none 0 w H ⟨rfl, .inl ⟨rfl, rfl⟩⟩ (fun i hi g _ e => by simp [Value.ownBlock] at e) hl hB)
 obtain ⟨_, _, _, _, _, _, _, _, k8, _⟩ := H.dr.cs
 clear H
 dsimp only [volA, List.length_nil] at HA
 go_enter Tryz.func60, Tryz.ntmps60
 go_wp2_with fail
 refine HA.out.mono ?_
 rintro e w4 ⟨rfl, h1, h2⟩
 have HQ : Hid (DoQ B w D (addP x o ⟨ByteArray.empty, 0, o.tt, 0, 0, false, []⟩) o dv pn po (.returned (.tuple #[])) w4) := ⟨rfl, h1, h2⟩
 clear h1 h2 HA
 go_wp2
 go_end0
 exact HQ.out
set_option maxRecDepth 100000 in
set_option maxHeartbeats 8000000 in
theorem branch_any (B D : Nat) (x : VW) (u : Value) (us : List Value) (o : OW) (dv : Value) (pn : Int) (k : Nat) (kd : Int) (w : World) (H : DrV B w D x u us o dv pn (k : Int)) (hk : k < x.vs.length) (hl : shV x.vs) (hl2 : x.vs.length ≤ 16777215) (hB : B ≤ w.heap.size) :
  Calls Tryz.prog 95 #[.pointer (some ⟨D, 0, none⟩), .int .i64 kd] w fun e w' => DoQ B w D (addP x o ⟨ByteArray.empty, 0, x.vs[k].sz, x.vs[k].id, kd, false, x.vs[k].mp⟩) o dv pn (k : Int) e w' := by
 obtain ⟨g, c, sa, sc, rfl, hg, hus, hV, hn, _⟩ := H.ow.volc hk
 have hs16 : x.vs[k].mp.length ≤ 16777216 := hl.2 _ (List.getElem_mem hk)
 have hdk := H.ow.dat k hk
 rw [hus] at hdk
 have HS2 := hid (second_any D x g 0 x.vs.length c k o dv pn w H.dr hk)
 generalize hs : x.vs[k] = s at *
 obtain ⟨_, k1, k2, _, _, _, k6⟩ := hV
 have hgl := (H.ow.blk hg).2.1
 have HU : Hid (∀ q, ∃ W2, W2 = w.drewN q ∧ (W2.cell? ⟨g, k * 7 + 2, none⟩ = some (.int .i64 s.sz) ∧ W2.cell? ⟨g, k * 7 + 1, none⟩ = some (.int .i64 s.id) ∧ W2.cell? ⟨g, k * 7 + 6, none⟩ = some (.slice sa s.mp.length sc)) ∧ Below w.heap.size w W2 ∧ g < W2.heap.size) := fun q => ⟨_, rfl, ⟨k2, k1, k6⟩, below_drewN' _ _ _, hgl⟩
 have HC0 : Hid (∀ W2, Below w.heap.size w W2 → Calls Tryz.prog 50 #[.slice sa s.mp.length sc] W2.drew fun e w' => ∃ v, e = .returned v ∧ OwR W2.drew.heap.size w' v s.mp ∧ Below W2.drew.heap.size W2.drew w') := fun W2 hb => by
  have h1 : OwR B W2 (.slice sa s.mp.length sc) s.mp := own_next hdk hb
  obtain ⟨a', c', e, hR, hn'⟩ := h1.rd
  simp only [Value.slice.injEq, true_and] at e
  obtain ⟨rfl, rfl⟩ := e
  exact CloneR_any sa sc s.mp W2.drew hR hn' hs16
 have HA0 : Hid (∀ W2, Below w.heap.size w W2 → ∀ w3 za zc, Below W2.drew.heap.size W2.drew w3 → OwR W2.drew.heap.size w3 (.slice za s.mp.length zc) s.mp → Calls Tryz.prog 94 #[.pointer (some ⟨D, 0, none⟩), .agg #[.string ByteArray.empty, .int .i64 0, .int .i64 s.sz, .int .i64 s.id, .int .i64 kd, .bool false, .slice za s.mp.length zc]] w3 fun e w' => DoQ B w D (addP x o ⟨ByteArray.empty, 0, s.sz, s.id, kd, false, s.mp⟩) o dv pn (k : Int) e w') := fun W2 hb w3 za zc hb3 hz => by
  have hb3' := hb.trans ((undrew hb3).mono hb.size)
  have hle : w.heap.size ≤ W2.drew.heap.size := hb.size
  have := add_any B D x (.slice (some ⟨g, 0, none⟩) x.vs.length c) us o dv pn (k : Int) ⟨ByteArray.empty, 0, s.sz, s.id, kd, false, s.mp⟩ za zc w3 (H.next hb3') (own_mono hz (by omega)) (fun i hi g' hg' e => by
   have h1 := (H.ow.lst hi hg').2.1
   have h2 := (own_blk hz e).1
   omega) hl2 (by have := hb3'.size; omega)
  refine this.mono fun e w' hq => ⟨hq.1, hq.2.1, (BelK.low hb3' rfl hB).trans hq.2.2⟩
 clear H hus hn hdk hs hg k1 k2 k6 hs16 hl hl2 hk hgl hB
 have mixed : Tryz.prog.follows Departure.mixedOrders = true := by kernel_rfl
 go_enter Tryz.func95, Tryz.ntmps95
 go_wp2_with fail
 refine HS2.out.mono ?_
 rintro e w2 ⟨rfl, q, rfl⟩
 obtain ⟨W2, hW2, ⟨k2, k1, k6⟩, hb2, hgl⟩ := HU.out q
 rw [← hW2]
 simp only [Nat.zero_add]
 have HCl := hid (HC0.out W2 hb2)
 have HA := hid (HA0.out W2 hb2)
 have HK : Hid (∀ w3, Below W2.drew.heap.size W2.drew w3 → w3.cell? ⟨g, k * 7 + 2, none⟩ = some (.int .i64 s.sz) ∧ w3.cell? ⟨g, k * 7 + 1, none⟩ = some (.int .i64 s.id) ∧ w3.cell? ⟨g, k * 7 + 6, none⟩ = some (.slice sa s.mp.length sc)) := fun w3 h => ⟨(h.cell (by exact hgl)).trans k2, (h.cell (by exact hgl)).trans k1, (h.cell (by exact hgl)).trans k6⟩
 clear hW2 hb2 hgl HC0 HA0 HU HS2
 go_wp2_with fail
 refine wp_region_last (S := (fun y => y.cell? ⟨g, k * 7 + 2, none⟩ = some (.int .i64 s.sz) ∧ y.cell? ⟨g, k * 7 + 1, none⟩ = some (.int .i64 s.id) ∧ y.cell? ⟨g, k * 7 + 6, none⟩ = some (.slice sa s.mp.length sc))) 16 16 (by kernel_rfl) (by kernel_rfl) (by kernel_rfl) ⟨k2, k1, k6⟩ (fun hSS => ?_)
 refine Ti 0 rfl ?_
 refine Ti 1 rfl ?_
 refine Ti 2 rfl ?_
 refine Ti 3 rfl ?_
 try simp only [Act.put, zA, zB, zC]
 refine Ti 4 rfl ?_
 refine Ti 5 rfl ?_
 refine Ti 6 rfl ?_
 refine Ti 7 rfl ?_
 try simp only [Act.put, zA, zB, zC]
 refine Ti 8 rfl ?_
 refine Ti 9 rfl ?_
 refine Ti 10 rfl ?_
 refine Ti 11 rfl ?_
 try simp only [Act.put, zA, zB, zC]
 refine Ti 12 rfl ?_
 refine Ti 13 rfl ?_
 try simp only [Act.put, zA, zB, zC]
 refine Ri 14 rfl (fun K9 hK9 => ?_)
 go_simp
 go_at_call 50
 refine HCl.out.mono ?_
 rintro e w3 ⟨z, rfl, hz, hb3⟩
 obtain ⟨za, zc, rfl, _⟩ := hz.rd
 refine hK9.out _ _ (HK.out w3 hb3) (fun hSS => ?_)
 try simp only [Act.put, zA, zB, zC]
 refine Ti 15 rfl ?_
 try simp only [Act.put, zA, zB, zC]
 refine Dn ?_
 refine last_step (L := 16) (o := ({ dst := some 23, op := Op.call { callee := Callee.value (Operand.func 94), args := #[Operand.tmp 7, Operand.tmp 22], argTypes := #[67, 38] }, type := 0, pos := _, after := _, guard := none } : Oper)) rfl (fun K9 hK9 => ?_)
 go_simp
 go_at_call 94
 refine (HA.out w3 za zc hb3 hz).mono ?_
 rintro e w4 ⟨rfl, h1, h2⟩
 refine hK9.out _ _ ?_
 try simp only [Act.put, zA, zB, zC]
 have HQ : Hid (DoQ B w D (addP x o ⟨ByteArray.empty, 0, s.sz, s.id, kd, false, s.mp⟩) o dv pn (k : Int) (.returned (.tuple #[])) w4) := ⟨rfl, h1, h2⟩
 clear h1 h2 HA HK HCl
 go_wp2
 go_end0
 exact HQ.out
set_option maxRecDepth 100000 in
set_option maxHeartbeats 4000000 in
theorem snap_any (B D : Nat) (x : VW) (u : Value) (us : List Value) (o : OW) (dv : Value) (pn : Int) (k : Nat) (w : World) (H : DrV B w D x u us o dv pn (k : Int)) (hk : k < x.vs.length) (hl : shV x.vs) (hl2 : x.vs.length ≤ 16777215) (hB : B ≤ w.heap.size) :
  Calls Tryz.prog 61 #[.pointer (some ⟨D, 0, none⟩)] w fun e w' => DoQ B w D (addP x o ⟨ByteArray.empty, 0, x.vs[k].sz, x.vs[k].id, 1, false, x.vs[k].mp⟩) o dv pn (k : Int) e w' := by
 have HA := hid (branch_any B D x u us o dv pn k 1 w H hk hl hl2 hB)
 generalize addP x o ⟨ByteArray.empty, 0, x.vs[k].sz, x.vs[k].id, 1, false, x.vs[k].mp⟩ = x' at *
 clear H
 go_enter Tryz.func61, Tryz.ntmps61
 go_wp2_with fail
 refine HA.out.mono ?_
 rintro e w4 ⟨rfl, h1, h2⟩
 have HQ : Hid (DoQ B w D x' o dv pn (k : Int) (.returned (.tuple #[])) w4) := ⟨rfl, h1, h2⟩
 clear h1 h2 HA
 go_wp2
 go_end0
 exact HQ.out
set_option maxRecDepth 100000 in
set_option maxHeartbeats 4000000 in
theorem clone_any (B D : Nat) (x : VW) (u : Value) (us : List Value) (o : OW) (dv : Value) (pn : Int) (k : Nat) (w : World) (H : DrV B w D x u us o dv pn (k : Int)) (hk : k < x.vs.length) (hl : shV x.vs) (hl2 : x.vs.length ≤ 16777215) (hB : B ≤ w.heap.size) :
  Calls Tryz.prog 62 #[.pointer (some ⟨D, 0, none⟩)] w fun e w' => DoQ B w D (addP x o ⟨ByteArray.empty, 0, x.vs[k].sz, x.vs[k].id, 0, false, x.vs[k].mp⟩) o dv pn (k : Int) e w' := by
 have HA := hid (branch_any B D x u us o dv pn k 0 w H hk hl hl2 hB)
 generalize addP x o ⟨ByteArray.empty, 0, x.vs[k].sz, x.vs[k].id, 0, false, x.vs[k].mp⟩ = x' at *
 clear H
 go_enter Tryz.func62, Tryz.ntmps62
 go_wp2_with fail
 refine HA.out.mono ?_
 rintro e w4 ⟨rfl, h1, h2⟩
 have HQ : Hid (DoQ B w D x' o dv pn (k : Int) (.returned (.tuple #[])) w4) := ⟨rfl, h1, h2⟩
 clear h1 h2 HA
 go_wp2
 go_end0
 exact HQ.out
end Go.Proofs.YtddddfankeepkaaGreatDoor
namespace Go.Proofs.YtddddfankeepkaaGreatDoor
open Go.RowKit
theorem own_any {B : Nat} {e : TypeId} {n m : Nat} {w : World} {v : Value} {xs : List Value} (h : w.ownsRow B e n v m xs) : ∃ a c, v = .slice a m c := by
 rcases own_form h with ⟨e, q⟩ | ⟨g, c, e, _⟩
 ·exact ⟨none, 0, by rw [e, q]⟩
 ·exact ⟨_, c, e⟩
theorem OwV.one {B : Nat} {w : World} {u : Value} {vs : List PV} {us : List Value} (h : OwV B w u vs us) : ∀ z ∈ flatV vs us, z.oneCell' = true := by
 intro z hz
 obtain ⟨k, hk⟩ := List.getElem?_of_mem hz
 have hk' : k < (flatV vs us).length := (List.getElem?_eq_some_iff.1 hk).1
 rw [flatV_len _ _ h.len] at hk'
 have hj : k / 7 < vs.length := by omega
 have h1 := flatV_at vs us h.len (k / 7) hj (k % 7) (by omega)
 rw [show k / 7 * 7 + k % 7 = k by omega, hk] at h1
 have hu : (us[k / 7]'(by have := h.len; omega)).oneCell' = true := by
  rcases own_form (h.dat (k / 7) hj) with ⟨e, _⟩ | ⟨_, _, e, _⟩ <;> rw [e] <;> rfl
 rcases (show k % 7 = 0 ∨ k % 7 = 1 ∨ k % 7 = 2 ∨ k % 7 = 3 ∨ k % 7 = 4 ∨ k % 7 = 5 ∨ k % 7 = 6 by omega) with h | h | h | h | h | h | h <;> rw [h] at h1 <;> simp [cells7] at h1 <;> first | (subst h1; rfl) | (rw [h1]; exact hu)
theorem OwV.del {B : Nat} {w w' : World} {u v' : Value} {vs : List PV} {us : List Value} {k : Nat} (h : OwV B w u vs us) (hk : k < vs.length) (hr : w'.ownsRow B 38 7 v' (vs.length - 1) ((flatV vs us).take (k * 7) ++ (flatV vs us).drop (k * 7 + 7)))
  (hkp : ∀ g, g < w.heap.size → (∃ cur, w.heap[g]? = some (.cells cur 78 (0, 0))) → w'.heap[g]? = w.heap[g]?) : OwV B w' v' (vs.eraseIdx k) (us.eraseIdx k) := by
 have keep : ∀ {z : Value} {rs : List Rg}, OwR B w z rs → OwR B w' z rs := fun {z rs} hz => own_keep hz fun g hg => hkp g (own_blk hz hg).2.1 (own_blk hz hg).2.2
 have hl := h.len
 have e1 : (vs.eraseIdx k).length = vs.length - 1 := List.length_eraseIdx_of_lt hk
 have e2 : (us.eraseIdx k).length = us.length - 1 := List.length_eraseIdx_of_lt (by omega)
 refine ⟨by omega, ?_, fun i hi => ?_⟩
 ·rw [flatV_del vs us hl, e1]
  exact hr
 ·rw [List.getElem_eraseIdx, List.getElem_eraseIdx]
  split
  ·exact keep (h.dat i (by omega))
  ·exact keep (h.dat (i + 1) (by omega))
def RmQ (B : Nat) (w : World) (D k : Nat) (x : VW) (u : Value) (us : List Value) (o : OW) (dv : Value) (pn po : Int) (e : Ending) (w' : World) : Prop := e = .returned (.tuple #[]) ∧ (∃ u', DrV B w' D ⟨x.cp, x.fr, x.nx, x.vs.eraseIdx k⟩ u' (us.eraseIdx k) o dv pn po ∧ OwnB w u u') ∧ But (fun g => g = D ∨ u.ownBlock = some g) w w'
set_option maxRecDepth 100000 in
set_option maxHeartbeats 8000000 in
theorem remove_any (B D : Nat) (x : VW) (u : Value) (us : List Value) (o : OW) (dv : Value) (k : Nat) (po : Int) (w : World) (H : DrV B w D x u us o dv (k : Int) po) (hk : k < x.vs.length) (hl : x.vs.length ≤ 16777216) :
  Calls Tryz.prog 67 #[.pointer (some ⟨D, 0, none⟩)] w fun e w' => RmQ B w D k x u us o dv (k : Int) po e w' := by
 obtain ⟨g, c, rfl, hg⟩ : ∃ g c, u = .slice (some ⟨g, 0, none⟩) x.vs.length c ∧ u.ownBlock = some g := by
  obtain ⟨g, c, _, _, h1, h2, _⟩ := H.ow.volc hk
  exact ⟨g, c, h1, h2⟩
 obtain ⟨_, _, _, k3, _, _, _, _, _, _, k10, _⟩ := H.dr.cs
 have hDl := H.dr.lt
 have HD0 := DelV_any B x.vs.length k (.slice (some ⟨g, 0, none⟩) x.vs.length c) (flatV x.vs us) w.drew (show w.drew.ownsRow B 38 7 _ _ _ from H.ow.row) H.ow.one hk hl
 have HK : Hid (∀ w3, w.drew.grownBy w3 (some g) → w3.cell? ⟨D, 3, none⟩ = some (.slice (some ⟨g, 0, none⟩) x.vs.length c) ∧ w3.cell? ⟨D, 10, none⟩ = some (.int .i64 (k : Int))) := fun w3 hq => by
  have hgD : w3.heap[D]? = w.heap[D]? := hq.block D hDl (fun e => H.ne.1 (by rw [hg, e]))
  have := (H.dr.keep hgD).cs
  exact ⟨this.2.2.2.1, this.2.2.2.2.2.2.2.2.2.2.1⟩
 have HFz : Hid (∀ w3, w.drew.grownBy w3 (some g) → w3.frozen? ⟨D, 3, none⟩ = false) := fun w3 hq => by
  have hgD : w3.heap[D]? = w.heap[D]? := hq.block D hDl (fun e => H.ne.1 (by rw [hg, e]))
  exact (H.dr.keep hgD).fz 3
 have HF : Hid (∀ v' w3 y, w3.ownsRow B 38 7 v' (x.vs.length - 1) ((flatV x.vs us).take (k * 7) ++ (flatV x.vs us).drop (k * 7 + 7)) → w.drew.grownBy w3 (some g) → OwnB w.drew (.slice (some ⟨g, 0, none⟩) x.vs.length c) v' → y = w3.setCell ⟨D, 3, none⟩ v' → RmQ B w D k x (.slice (some ⟨g, 0, none⟩) x.vs.length c) us o dv (k : Int) po (.returned (.tuple #[])) y) := fun v' w3 y hr hq ho hy => by
  have hgD : w3.heap[D]? = w.heap[D]? := hq.block D hDl (fun e => H.ne.1 (by rw [hg, e]))
  have hdr := H.dr.keep hgD
  have hy2 : ∀ z, z ≠ D → y.heap[z]? = w3.heap[z]? := fun z hz => by rw [hy]; exact Below.heap_setCell _ _ _ _ hz
  have hrow4 : y.ownsRow B 38 7 v' (x.vs.length - 1) ((flatV x.vs us).take (k * 7) ++ (flatV x.vs us).drop (k * 7 + 7)) := by
   refine own_keep hr fun z hz => hy2 z (fun e => ?_)
   obtain ⟨_, _, cur, hc⟩ := own_blk hr hz
   rw [e] at hc
   exact absurd (row_kind hc hdr) (by decide)
  refine ⟨rfl, ⟨v', ⟨by rw [hy]; exact hdr.setU rfl rfl rfl, H.ow.del hk hrow4 (fun z hzl ⟨cur, hc⟩ => ?_), H.ap.erase k, H.hD⟩, ho⟩, ?_⟩
  ·have hzD : z ≠ D := fun e => by rw [e] at hc; exact absurd (row_kind hc H.dr) (by decide)
   rw [hy2 z hzD]
   exact hq.block z hzl (fun e => by
    obtain ⟨_, _, cur', hc'⟩ := H.ow.blk hg
    simp only [Option.some.injEq] at e
    rw [e] at hc
    exact absurd (row_kind hc hc') (by decide))
  ·rw [hy]
   refine But.setCell (p := ⟨D, 3, none⟩) (a := w) (w := w3) ⟨hq.os, hq.tape, hq.output, hq.size, fun z hz hx => hq.block z hz (fun e => hx (.inr (by rw [hg, e])))⟩ (.inl rfl) v'
 obtain ⟨ln, hln⟩ : ∃ ln, x.vs.length = ln := ⟨_, rfl⟩
 rw [hln] at HD0 HK HF k3
 have HD := hid HD0
 have HLn := hid hln
 have hk1 : (k : Int) < (ln : Int) := by omega
 have hw1 : IntKind.i64.wrap ((k : Int) + 1) = (k : Int) + 1 := by rw [IntKind.wrap_i64]; omega
 rw [hln]
 have mixed : Tryz.prog.follows Departure.mixedOrders = true := by kernel_rfl
 clear H hg hl hk hln HD0 hDl
 go_enter Tryz.func67, Tryz.ntmps67
 go_wp2_with fail
 refine wp_region_last (S := (fun y => y.cell? ⟨D, 3, none⟩ = some (.slice (some ⟨g, 0, none⟩) ln c) ∧ y.cell? ⟨D, 10, none⟩ = some (.int .i64 (k : Int)))) 19 19 (by kernel_rfl) (by kernel_rfl) (by kernel_rfl) ⟨k3, k10⟩ (fun hSS => ?_)
 refine Ti 0 rfl ?_
 refine Ti 1 rfl ?_
 refine Ti 2 rfl ?_
 refine Ti 3 rfl ?_
 try simp only [Act.put, zA, zB, zC]
 refine Ti 4 rfl ?_
 refine Ti 5 rfl ?_
 refine Ti 6 rfl ?_
 refine Ti 7 rfl ?_
 try simp only [Act.put, zA, zB, zC]
 refine Ti 8 rfl ?_
 refine Ti 9 rfl ?_
 refine Ti 10 rfl ?_
 refine Ti 11 rfl ?_
 try simp only [Act.put, zA, zB, zC]
 refine Ti 12 rfl ?_
 refine Ti 13 rfl ?_
 try simp only [Act.put, zA, zB, zC]
 refine wpAnyH_take (i := 14) (oi := ({ dst := some 16, op := Op.binOp BinOp.add 3 (Operand.tmp 15) (Operand.const (Value.int IntKind.i64 1)) 3, type := 3, pos := _, after := _, guard := none } : Oper)) (v := .int .i64 ((k : Int) + 1)) rfl (by kernel_rfl) (by kernel_rfl) (by kernel_rfl) (fun _ _ _ h => h) (Or.inl ⟨by rfl, ?_⟩) hSS ?_
 ·intro w9 hSw
  (try dsimp only at hSw)
  (try go_split_ands)
  first | (go_simp; done) | (go_simp; simp [hw1]; done)
 try simp only [Act.put, zA, zB, zC]
 refine Ri 15 rfl (fun K9 hK9 => ?_)
 go_simp
 go_at_call 100
 refine HD.out.mono ?_
 rintro e w3 ⟨v', rfl, hq1, hq2, hq3⟩
 obtain ⟨a4, c4, rfl⟩ := own_any hq1
 have HF4 := hid (fun y => HF.out _ w3 y hq1 hq2 hq3)
 have fz := HFz.out w3 hq2
 have k3 := (HK.out w3 hq2).1
 refine hK9.out _ _ (HK.out w3 hq2) (fun hSS => ?_)
 try simp only [Act.put, zA, zB, zC]
 refine Ti 16 rfl ?_
 refine Ti 17 rfl ?_
 refine Ti 18 rfl ?_
 try simp only [Act.put, zA, zB, zC]
 refine Dn ?_
 refine last_step (L := 19) (o := ({ dst := none, op := Op.store 22 (Operand.tmp 20) (Operand.tmp 17), type := 0, pos := _, after := _, guard := none } : Oper)) rfl (fun K9 hK9 => ?_)
 go_simp
 refine hK9.out _ _ ?_
 try simp only [Act.put, zA, zB, zC]
 go_wp2
 go_end0
 exact HF4.out _ rfl
end Go.Proofs.YtddddfankeepkaaGreatDoor
namespace Go.Proofs.YtddddfankeepkaaGreatDoor
open Go.RowKit
def setMp (v : PV) (rs : List Rg) : PV := ⟨v.nm, v.id, v.sz, v.og, v.kd, v.pt, rs⟩
def setSz (v : PV) (n : Int) : PV := ⟨v.nm, v.id, n, v.og, v.kd, v.pt, v.mp⟩
def setNm (v : PV) (s : ByteArray) : PV := ⟨s, v.id, v.sz, v.og, v.kd, v.pt, v.mp⟩
theorem flatV_set6 : ∀ (vs : List PV) (us : List Value) (k : Nat) (hk : k < vs.length) (rs : List Rg) (z : Value), us.length = vs.length → flatV (vs.set k (setMp vs[k] rs)) (us.set k z) = (flatV vs us).set (k * 7 + 6) z
 | [], _, k, hk, _, _, _ => by simp at hk
 | _ :: _, [], _, _, _, _, h => by simp at h
 | x :: ts, y :: us, 0, _, rs, z, _ => by simp [flatV, cells7, setMp]
 | x :: ts, y :: us, k + 1, hk, rs, z, hl => by
  have ih := flatV_set6 ts us k (by simpa using hk) rs z (by simpa using hl)
  simp only [List.getElem_cons_succ]
  rw [List.set_cons_succ, List.set_cons_succ, flatV, ih, flatV, show (k + 1) * 7 + 6 = k * 7 + 6 + 7 by omega]
  simp [cells7]
theorem flatV_set2 : ∀ (vs : List PV) (us : List Value) (k : Nat) (hk : k < vs.length) (n : Int), us.length = vs.length → flatV (vs.set k (setSz vs[k] n)) us = (flatV vs us).set (k * 7 + 2) (.int .i64 n)
 | [], _, k, hk, _, _ => by simp at hk
 | _ :: _, [], _, _, _, h => by simp at h
 | x :: ts, y :: us, 0, _, n, _ => by simp [flatV, cells7, setSz]
 | x :: ts, y :: us, k + 1, hk, n, hl => by
  have ih := flatV_set2 ts us k (by simpa using hk) n (by simpa using hl)
  simp only [List.getElem_cons_succ]
  rw [List.set_cons_succ, flatV, ih, flatV, show (k + 1) * 7 + 2 = k * 7 + 2 + 7 by omega]
  simp [cells7]
theorem DrV.upd {B : Nat} {w w3 : World} {D : Nat} {x : VW} {c : Nat} {us : List Value} {o : OW} {dv : Value} {pn po : Int} {g k : Nat} {z : Value} {rs : List Rg} (H : DrV B w D x (.slice (some ⟨g, 0, none⟩) x.vs.length c) us o dv pn po) (hB : B ≤ w.heap.size) (hk : k < x.vs.length) (hu : k < us.length) (hz : OwR B w3 z rs) (hgr : w.grownBy w3 us[k].ownBlock) (hob : OwnB w us[k] z) :
  DrV B (w3.setCell ⟨g, k * 7 + 6, none⟩ z) D ⟨x.cp, x.fr, x.nx, x.vs.set k (setMp x.vs[k] rs)⟩ (.slice (some ⟨g, 0, none⟩) x.vs.length c) (us.set k z) o dv pn po ∧ w3.frozen? ⟨g, k * 7 + 6, none⟩ = false ∧ BelK B w (w3.setCell ⟨g, k * 7 + 6, none⟩ z) ∧ DrB w3 D x (.slice (some ⟨g, 0, none⟩) x.vs.length c) o dv pn po := by
 have hg : (Value.slice (some ⟨g, 0, none⟩) x.vs.length c).ownBlock = some g := rfl
 have hl := H.ow.len
 have hD : w3.heap[D]? = w.heap[D]? := hgr.block D H.dr.lt (fun e => H.ne.2 k hu e.symm)
 have hrow : w3.ownsRow B 38 7 (.slice (some ⟨g, 0, none⟩) x.vs.length c) x.vs.length (flatV x.vs us) := own_keep H.ow.row fun y hy => hgr.block y (H.ow.blk hy).2.1 (fun e => H.ow.ne hy hu e.symm)
 have hDg : D ≠ g := fun e => H.ne.1 (by rw [e]; rfl)
 have hst := (hrow.stored (k * 7 + 6) z).1
 obtain ⟨hBg, hgl, cur, hc⟩ := H.ow.blk hg
 have hzg : z.ownBlock ≠ some g := fun e => by
  obtain ⟨_, _, cz, hcz⟩ := own_blk hz e
  have := hgr.block g hgl (fun e => H.ow.ne hg hu e.symm)
  rw [this, hc] at hcz
  simp at hcz
 refine ⟨⟨?_, ⟨by simp [hl], ?_, fun i hi => ?_⟩, H.ap.set k (fun i hi b hne hb e => ?_), H.hD⟩, hrow.frozenAt _, (BelK.grown hgr hB (fun b e => KdOk.own (H.ow.dat k hk) e (by decide) (by decide))).set (p := ⟨g, k * 7 + 6, none⟩) hBg (KdOk.own hrow rfl (by decide) (by decide)).2 z, H.dr.keep hD⟩
 ·exact (H.dr.keep hD).keep (Below.heap_setCell _ _ _ _ hDg)
 ·rw [flatV_set6 x.vs us k hk rs z hl]
  simpa using hst
 ·have hi' : i < x.vs.length := by simpa using hi
  simp only [List.getElem_set]
  by_cases e : k = i
  ·subst e
   rw [if_pos rfl, if_pos rfl]
   exact own_set hz (p := ⟨g, k * 7 + 6, none⟩) hzg z
  ·rw [if_neg e, if_neg e]
   refine own_set (own_keep (H.ow.dat i hi') fun y hy => hgr.block y (own_blk (H.ow.dat i hi') hy).2.1 (fun e2 => e (H.ap k i hu (by omega) y e2.symm hy))) (p := ⟨g, k * 7 + 6, none⟩) (fun e2 => H.ow.ne hg (by omega) e2) z
 ·rcases hob b e with h | h
  ·exact hne (H.ap i k hi hu b hb h)
  ·have := (H.ow.lst hi hb).2.1
   omega
theorem DrV.updS {B : Nat} {w : World} {D : Nat} {x : VW} {c : Nat} {us : List Value} {o : OW} {dv : Value} {pn po : Int} {g k : Nat} (n : Int) (H : DrV B w D x (.slice (some ⟨g, 0, none⟩) x.vs.length c) us o dv pn po) (hk : k < x.vs.length) :
  DrV B (w.setCell ⟨g, k * 7 + 2, none⟩ (.int .i64 n)) D ⟨x.cp, x.fr, x.nx, x.vs.set k (setSz x.vs[k] n)⟩ (.slice (some ⟨g, 0, none⟩) x.vs.length c) us o dv pn po := by
 have hg : (Value.slice (some ⟨g, 0, none⟩) x.vs.length c).ownBlock = some g := rfl
 have hl := H.ow.len
 have hDg : D ≠ g := fun e => H.ne.1 (by rw [e]; rfl)
 have hst := (H.ow.row.stored (k * 7 + 2) (.int .i64 n)).1
 refine ⟨H.dr.keep (Below.heap_setCell _ _ _ _ hDg), ⟨by simp [hl], ?_, fun i hi => ?_⟩, H.ap, H.hD⟩
 ·rw [flatV_set2 x.vs us k hk n hl]
  simpa using hst
 ·have hi' : i < x.vs.length := by simpa using hi
  have e : ((x.vs.set k (setSz x.vs[k] n))[i]'(by simpa using hi)).mp = x.vs[i].mp := by
   rw [List.getElem_set]
   split
   ·subst_vars; rfl
   ·rfl
  have := own_set (H.ow.dat i hi') (p := ⟨g, k * 7 + 2, none⟩) (fun e2 => H.ow.ne hg (by omega) e2) (.int .i64 n)
  unfold OwR
  rw [e]
  exact this
end Go.Proofs.YtddddfankeepkaaGreatDoor
namespace Go.Proofs.YtddddfankeepkaaGreatDoor
open Go.RowKit
set_option maxRecDepth 100000 in
set_option maxHeartbeats 8000000 in
theorem write_any (B D : Nat) (x : VW) (u : Value) (us : List Value) (o : OW) (dv : Value) (k : Nat) (po : Int) (w : World) (H : DrV B w D x u us o dv (k : Int) po) (hk : k < x.vs.length) (hl : shV x.vs) (hB : B ≤ w.heap.size) :
  Calls Tryz.prog 70 #[.pointer (some ⟨D, 0, none⟩)] w fun e w' => DoQ B w D ⟨x.cp, x.fr, x.nx, x.vs.set k (setMp x.vs[k] (joinP x.vs[k].mp ⟨o.fr, wrap64 (o.fr + 1)⟩))⟩ o dv (k : Int) po e w' := by
 obtain ⟨g, c, sa, sc, rfl, hg, hus, hV, hn, _⟩ := H.ow.volc hk
 have hu : k < us.length := by rw [H.ow.len]; exact hk
 have hs16 : x.vs[k].mp.length ≤ 16777216 := hl.2 _ (List.getElem_mem hk)
 have HS2 := hid (volume_any D x g 0 x.vs.length c k o dv po w H.dr hk)
 have hDl := H.dr.lt
 have hgl := (H.ow.blk hg).2.1
 have hne := H.ow.ne hg hu
 rw [hus] at hne
 have HU : Hid (∀ W2, W2.heap = w.heap → Below w.heap.size w W2 → DrV B W2 D x (.slice (some ⟨g, 0, none⟩) x.vs.length c) us o dv (k : Int) po) := fun W2 _ hb => H.next hb
 have HUS := hid hus
 have HL := hid hs16
 have HHB := hid hB
 have HHU := hid hu
 generalize hs : x.vs[k] = s at *
 obtain ⟨_, _, _, _, _, _, k6⟩ := hV
 have HHS := hid hs
 have HHK := hid hk
 have HK6 := hid k6
 have HDG : Hid (D < w.heap.size ∧ g < w.heap.size ∧ D ≠ g) := ⟨hDl, hgl, fun e => H.ne.1 (by rw [hg, e])⟩
 have HNE := hid hne
 clear hus hn hs k6 hs16 hl hgl hDl hB hg hne
 go_enter Tryz.func70, Tryz.ntmps70
 go_wp2_with fail
 refine HS2.out.mono ?_
 rintro e w2 ⟨rfl, q, rfl⟩
 obtain ⟨W2, hW2⟩ : ∃ W2, W2 = w.drewN q := ⟨_, rfl⟩
 have hH2 : W2.heap = w.heap := by rw [hW2]; rfl
 have hb2 : Below w.heap.size w W2 := by rw [hW2]; exact below_drewN' _ _ _
 have H2 := HU.out W2 hH2 hb2
 rw [← hW2]
 simp only [Nat.zero_add]
 obtain ⟨_, _, _, _, _, _, _, k7, k8, _⟩ := H2.dr.cs
 have k6 : W2.cell? ⟨g, k * 7 + 6, none⟩ = some (.slice sa s.mp.length sc) := by rw [← HK6.out]; simp only [World.cell?, hH2]
 have hw1 : IntKind.i64.wrap (o.fr + 1) = wrap64 (o.fr + 1) := by rw [IntKind.wrap_i64]; unfold wrap64; omega
 obtain ⟨r, hr⟩ : ∃ r : Rg, r = ⟨o.fr, wrap64 (o.fr + 1)⟩ := ⟨_, rfl⟩
 obtain ⟨W3, hW3⟩ : ∃ W3, W3 = (W2.alloc (.cells #[.int .i64 o.fr, .int .i64 (wrap64 (o.fr + 1))] 78)).drew := ⟨_, rfl⟩
 have b3 : Below W2.heap.size W2 W3 := by rw [hW3]; exact below_dr (below1 _ _)
 have H3 := H2.next b3
 have hR3 : RgB W3 W2.heap.size r := by rw [hW3]; rw [hr]; exact heap_new W2 _
 have hd3 := H3.ow.dat k HHK.out
 rw [HUS.out, HHS.out] at hd3
 have HC := hid (join_any B W2.heap.size (.slice sa s.mp.length sc) s.mp r W3 HL.out (by have := HHB.out; have := hb2.size; have := b3.size; omega) hd3 hR3)
 have HK3 : Hid (W3.cell? ⟨g, k * 7 + 6, none⟩ = some (.slice sa s.mp.length sc) ∧ W3.cell? ⟨D, 7, none⟩ = some (.int .i64 o.fr) ∧ W3.cell? ⟨D, 8, none⟩ = some (.int .i64 o.tt)) := ⟨(b3.cell (by have := HDG.out; rw [hH2]; exact this.2.1)).trans k6, (b3.cell (by have := HDG.out; rw [hH2]; exact this.1)).trans k7, (b3.cell (by have := HDG.out; rw [hH2]; exact this.1)).trans k8⟩
 have HK4 : Hid (∀ w4, W3.grownBy w4 (Value.slice sa s.mp.length sc).ownBlock → w4.cell? ⟨g, k * 7 + 6, none⟩ = some (.slice sa s.mp.length sc) ∧ w4.cell? ⟨D, 7, none⟩ = some (.int .i64 o.fr) ∧ w4.cell? ⟨D, 8, none⟩ = some (.int .i64 o.tt)) := fun w4 hq => by
  obtain ⟨z0, z1, z2⟩ := HK3.out
  have hgk : w4.heap[g]? = W3.heap[g]? := hq.block g (by have := HDG.out; have := hb2.size; have := b3.size; omega) (fun e => HNE.out e.symm)
  have hDk : w4.heap[D]? = W3.heap[D]? := hq.block D (by have := HDG.out; have := hb2.size; have := b3.size; omega) (fun e => H3.ne.2 k HHU.out (by rw [HUS.out]; exact e.symm))
  simp only [World.cell?, hgk, hDk] at z0 z1 z2 ⊢
  exact ⟨z0, z1, z2⟩
 have HF : Hid (∀ w4 z, OwR B w4 z (joinP s.mp r) → W3.grownBy w4 (Value.slice sa s.mp.length sc).ownBlock → OwnB W3 (.slice sa s.mp.length sc) z → (∃ u' us', DrV B (w4.setCell ⟨g, k * 7 + 6, none⟩ z) D ⟨x.cp, x.fr, x.nx, x.vs.set k (setMp s (joinP s.mp r))⟩ u' us' o dv (k : Int) po) ∧ w4.frozen? ⟨g, k * 7 + 6, none⟩ = false ∧ BelK B w (w4.setCell ⟨g, k * 7 + 6, none⟩ z) ∧ True) := fun w4 z hz hq ho => by
  have := H3.upd (Nat.le_trans HHB.out (Nat.le_trans hb2.size b3.size)) HHK.out HHU.out hz (by rw [HUS.out]; exact hq) (by rw [HUS.out]; exact ho)
  rw [HHS.out] at this
  refine ⟨⟨_, _, this.1⟩, this.2.1, (BelK.low (hb2.trans (b3.mono hb2.size)) rfl HHB.out).trans this.2.2.1, trivial⟩
 have HW3 := hid hW3
 have mixed : Tryz.prog.follows Departure.mixedOrders = true := by kernel_rfl
 rw [hr] at HF
 rw [hr] at HC
 clear hr
 clear hW2 hH2 hb2 H2 hW3 b3 H3 hR3 hd3 HU HS2
 go_wp2_with fail
 refine wp_region_last (S := (fun y => y.cell? ⟨g, k * 7 + 6, none⟩ = some (.slice sa s.mp.length sc) ∧ y.cell? ⟨D, 7, none⟩ = some (.int .i64 o.fr) ∧ y.cell? ⟨D, 8, none⟩ = some (.int .i64 o.tt))) 21 21 (by kernel_rfl) (by kernel_rfl) (by kernel_rfl) ⟨k6, k7, k8⟩ (fun hSS => ?_)
 refine Ti 0 rfl ?_
 refine Ti 1 rfl ?_
 refine Ti 2 rfl ?_
 refine Ti 3 rfl ?_
 try simp only [Act.put, zA, zB, zC]
 refine Ti 4 rfl ?_
 refine Ti 5 rfl ?_
 refine Ti 6 rfl ?_
 refine Ti 7 rfl ?_
 try simp only [Act.put, zA, zB, zC]
 refine Ti 8 rfl ?_
 refine Ti 9 rfl ?_
 refine Ti 10 rfl ?_
 refine Ti 11 rfl ?_
 try simp only [Act.put, zA, zB, zC]
 refine Ti 12 rfl ?_
 refine Ti 13 rfl ?_
 refine Ti 14 rfl ?_
 try simp only [Act.put, zA, zB, zC]
 refine wpAnyH_take (i := 15) (oi := ({ dst := some 20, op := Op.binOp BinOp.add 3 (Operand.tmp 19) (Operand.const (Value.int IntKind.i64 1)) 3, type := 3, pos := _, after := _, guard := none } : Oper)) (v := .int .i64 (wrap64 (o.fr + 1))) rfl (by kernel_rfl) (by kernel_rfl) (by kernel_rfl) (fun _ _ _ h => h) (Or.inl ⟨by rfl, ?_⟩) hSS ?_
 ·intro w9 hSw
  (try dsimp only at hSw)
  (try go_split_ands)
  first | (go_simp; done) | (go_simp; simp [hw1]; done)
 try simp only [Act.put, zA, zB, zC]
 refine Ti 16 rfl ?_
 try simp only [Act.put, zA, zB, zC]
 refine Ri 17 rfl (fun K9 hK9 => ?_)
 go_simp
 refine hK9.out _ _ (by have q := HK3.out; rw [HW3.out] at q; exact q) (fun hSS => ?_)
 try simp only [Act.put, zA, zB, zC]
 refine Ri 18 rfl (fun K9 hK9 => ?_)
 go_simp
 go_at_call 101
 rw [← HW3.out]
 refine HC.out.mono ?_
 rintro e w4 ⟨z, rfl, hz, hgr, hob⟩
 obtain ⟨za, zc, rfl⟩ := own_any hz
 obtain ⟨hN, fz, hbb, hdr⟩ := HF.out w4 _ hz hgr hob
 have k6 := (HK4.out w4 hgr).1
 refine hK9.out _ _ (HK4.out w4 hgr) (fun hSS => ?_)
 try simp only [Act.put, zA, zB, zC]
 refine Ti 19 rfl ?_
 refine Ti 20 rfl ?_
 try simp only [Act.put, zA, zB, zC]
 refine Dn ?_
 refine last_step (L := 21) (o := ({ dst := none, op := Op.store 36 (Operand.tmp 25) (Operand.tmp 23), type := 0, pos := _, after := _, guard := none } : Oper)) rfl (fun K9 hK9 => ?_)
 go_simp
 refine hK9.out _ _ ?_
 try simp only [Act.put, zA, zB, zC]
 go_wp2
 go_end0
 exact ⟨rfl, hN, hbb⟩
set_option maxRecDepth 100000 in
set_option maxHeartbeats 8000000 in
theorem discard_any (B D : Nat) (x : VW) (u : Value) (us : List Value) (o : OW) (dv : Value) (k : Nat) (po : Int) (w : World) (H : DrV B w D x u us o dv (k : Int) po) (hk : k < x.vs.length) (hl : shV x.vs) (hB : B ≤ w.heap.size) :
  Calls Tryz.prog 71 #[.pointer (some ⟨D, 0, none⟩)] w fun e w' => DoQ B w D ⟨x.cp, x.fr, x.nx, x.vs.set k (setMp x.vs[k] (cutP x.vs[k].mp ⟨o.fr, o.tt⟩))⟩ o dv (k : Int) po e w' := by
 obtain ⟨g, c, sa, sc, rfl, hg, hus, hV, hn, _⟩ := H.ow.volc hk
 have hu : k < us.length := by rw [H.ow.len]; exact hk
 have hs16 : x.vs[k].mp.length ≤ 16777216 := hl.2 _ (List.getElem_mem hk)
 have HS2 := hid (volume_any D x g 0 x.vs.length c k o dv po w H.dr hk)
 have hDl := H.dr.lt
 have hgl := (H.ow.blk hg).2.1
 have hne := H.ow.ne hg hu
 rw [hus] at hne
 have HU : Hid (∀ W2, W2.heap = w.heap → Below w.heap.size w W2 → DrV B W2 D x (.slice (some ⟨g, 0, none⟩) x.vs.length c) us o dv (k : Int) po) := fun W2 _ hb => H.next hb
 have HUS := hid hus
 have HL := hid hs16
 have HHB := hid hB
 have HHU := hid hu
 generalize hs : x.vs[k] = s at *
 obtain ⟨_, _, _, _, _, _, k6⟩ := hV
 have HHS := hid hs
 have HHK := hid hk
 have HK6 := hid k6
 have HDG : Hid (D < w.heap.size ∧ g < w.heap.size ∧ D ≠ g) := ⟨hDl, hgl, fun e => H.ne.1 (by rw [hg, e])⟩
 have HNE := hid hne
 clear hus hn hs k6 hs16 hl hgl hDl hB hg hne
 go_enter Tryz.func71, Tryz.ntmps71
 go_wp2_with fail
 refine HS2.out.mono ?_
 rintro e w2 ⟨rfl, q, rfl⟩
 obtain ⟨W2, hW2⟩ : ∃ W2, W2 = w.drewN q := ⟨_, rfl⟩
 have hH2 : W2.heap = w.heap := by rw [hW2]; rfl
 have hb2 : Below w.heap.size w W2 := by rw [hW2]; exact below_drewN' _ _ _
 have H2 := HU.out W2 hH2 hb2
 rw [← hW2]
 simp only [Nat.zero_add]
 obtain ⟨_, _, _, _, _, _, _, k7, k8, _⟩ := H2.dr.cs
 have k6 : W2.cell? ⟨g, k * 7 + 6, none⟩ = some (.slice sa s.mp.length sc) := by rw [← HK6.out]; simp only [World.cell?, hH2]
 obtain ⟨r, hr⟩ : ∃ r : Rg, r = ⟨o.fr, o.tt⟩ := ⟨_, rfl⟩
 obtain ⟨W3, hW3⟩ : ∃ W3, W3 = (W2.alloc (.cells #[.int .i64 o.fr, .int .i64 (o.tt)] 78)).drew := ⟨_, rfl⟩
 have b3 : Below W2.heap.size W2 W3 := by rw [hW3]; exact below_dr (below1 _ _)
 have H3 := H2.next b3
 have hR3 : RgB W3 W2.heap.size r := by rw [hW3]; rw [hr]; exact heap_new W2 _
 have hd3 := H3.ow.dat k HHK.out
 rw [HUS.out, HHS.out] at hd3
 have HC := hid (cut_any B W2.heap.size (.slice sa s.mp.length sc) s.mp r W3 HL.out (by have := HHB.out; have := hb2.size; have := b3.size; omega) hd3 hR3)
 have HK3 : Hid (W3.cell? ⟨g, k * 7 + 6, none⟩ = some (.slice sa s.mp.length sc) ∧ W3.cell? ⟨D, 7, none⟩ = some (.int .i64 o.fr) ∧ W3.cell? ⟨D, 8, none⟩ = some (.int .i64 o.tt)) := ⟨(b3.cell (by have := HDG.out; rw [hH2]; exact this.2.1)).trans k6, (b3.cell (by have := HDG.out; rw [hH2]; exact this.1)).trans k7, (b3.cell (by have := HDG.out; rw [hH2]; exact this.1)).trans k8⟩
 have HK4 : Hid (∀ w4, W3.grownBy w4 (Value.slice sa s.mp.length sc).ownBlock → w4.cell? ⟨g, k * 7 + 6, none⟩ = some (.slice sa s.mp.length sc) ∧ w4.cell? ⟨D, 7, none⟩ = some (.int .i64 o.fr) ∧ w4.cell? ⟨D, 8, none⟩ = some (.int .i64 o.tt)) := fun w4 hq => by
  obtain ⟨z0, z1, z2⟩ := HK3.out
  have hgk : w4.heap[g]? = W3.heap[g]? := hq.block g (by have := HDG.out; have := hb2.size; have := b3.size; omega) (fun e => HNE.out e.symm)
  have hDk : w4.heap[D]? = W3.heap[D]? := hq.block D (by have := HDG.out; have := hb2.size; have := b3.size; omega) (fun e => H3.ne.2 k HHU.out (by rw [HUS.out]; exact e.symm))
  simp only [World.cell?, hgk, hDk] at z0 z1 z2 ⊢
  exact ⟨z0, z1, z2⟩
 have HF : Hid (∀ w4 z, OwR B w4 z (cutP s.mp r) → W3.grownBy w4 (Value.slice sa s.mp.length sc).ownBlock → OwnB W3 (.slice sa s.mp.length sc) z → (∃ u' us', DrV B (w4.setCell ⟨g, k * 7 + 6, none⟩ z) D ⟨x.cp, x.fr, x.nx, x.vs.set k (setMp s (cutP s.mp r))⟩ u' us' o dv (k : Int) po) ∧ w4.frozen? ⟨g, k * 7 + 6, none⟩ = false ∧ BelK B w (w4.setCell ⟨g, k * 7 + 6, none⟩ z) ∧ True) := fun w4 z hz hq ho => by
  have := H3.upd (Nat.le_trans HHB.out (Nat.le_trans hb2.size b3.size)) HHK.out HHU.out hz (by rw [HUS.out]; exact hq) (by rw [HUS.out]; exact ho)
  rw [HHS.out] at this
  refine ⟨⟨_, _, this.1⟩, this.2.1, (BelK.low (hb2.trans (b3.mono hb2.size)) rfl HHB.out).trans this.2.2.1, trivial⟩
 have HW3 := hid hW3
 have mixed : Tryz.prog.follows Departure.mixedOrders = true := by kernel_rfl
 rw [hr] at HF
 rw [hr] at HC
 clear hr
 clear hW2 hH2 hb2 H2 hW3 b3 H3 hR3 hd3 HU HS2
 go_wp2_with fail
 refine wp_region_last (S := (fun y => y.cell? ⟨g, k * 7 + 6, none⟩ = some (.slice sa s.mp.length sc) ∧ y.cell? ⟨D, 7, none⟩ = some (.int .i64 o.fr) ∧ y.cell? ⟨D, 8, none⟩ = some (.int .i64 o.tt))) 20 20 (by kernel_rfl) (by kernel_rfl) (by kernel_rfl) ⟨k6, k7, k8⟩ (fun hSS => ?_)
 refine Ti 0 rfl ?_
 try simp only [Act.put, zA, zB, zC]
 refine Ti 1 rfl ?_
 refine Ti 2 rfl ?_
 refine Ti 3 rfl ?_
 refine Ti 4 rfl ?_
 try simp only [Act.put, zA, zB, zC]
 refine Ti 5 rfl ?_
 refine Ti 6 rfl ?_
 refine Ti 7 rfl ?_
 refine Ti 8 rfl ?_
 try simp only [Act.put, zA, zB, zC]
 refine Ti 9 rfl ?_
 refine Ti 10 rfl ?_
 refine Ti 11 rfl ?_
 refine Ti 12 rfl ?_
 try simp only [Act.put, zA, zB, zC]
 refine Ti 13 rfl ?_
 refine Ti 14 rfl ?_
 refine Ti 15 rfl ?_
 try simp only [Act.put, zA, zB, zC]
 refine Ri 16 rfl (fun K9 hK9 => ?_)
 go_simp
 refine hK9.out _ _ (by have q := HK3.out; rw [HW3.out] at q; exact q) (fun hSS => ?_)
 try simp only [Act.put, zA, zB, zC]
 refine Ri 17 rfl (fun K9 hK9 => ?_)
 go_simp
 go_at_call 96
 rw [← HW3.out]
 refine HC.out.mono ?_
 rintro e w4 ⟨z, rfl, hz, hgr, hob⟩
 obtain ⟨za, zc, rfl⟩ := own_any hz
 obtain ⟨hN, fz, hbb, hdr⟩ := HF.out w4 _ hz hgr hob
 have k6 := (HK4.out w4 hgr).1
 refine hK9.out _ _ (HK4.out w4 hgr) (fun hSS => ?_)
 try simp only [Act.put, zA, zB, zC]
 refine Ti 18 rfl ?_
 refine Ti 19 rfl ?_
 try simp only [Act.put, zA, zB, zC]
 refine Dn ?_
 refine last_step (L := 20) (o := ({ dst := none, op := Op.store 36 (Operand.tmp 24) (Operand.tmp 22), type := 0, pos := _, after := _, guard := none } : Oper)) rfl (fun K9 hK9 => ?_)
 go_simp
 refine hK9.out _ _ ?_
 try simp only [Act.put, zA, zB, zC]
 go_wp2
 go_end0
 exact ⟨rfl, hN, hbb⟩
set_option maxRecDepth 100000 in
set_option maxHeartbeats 8000000 in
theorem fill_any (B D : Nat) (x : VW) (u : Value) (us : List Value) (o : OW) (dv : Value) (k : Nat) (po : Int) (w : World) (H : DrV B w D x u us o dv (k : Int) po) (hk : k < x.vs.length) (hl : shV x.vs) (hB : B ≤ w.heap.size) :
  Calls Tryz.prog 72 #[.pointer (some ⟨D, 0, none⟩)] w fun e w' => DoQ B w D ⟨x.cp, x.fr, x.nx, x.vs.set k (setMp x.vs[k] (joinP x.vs[k].mp ⟨o.fr, o.tt⟩))⟩ o dv (k : Int) po e w' := by
 obtain ⟨g, c, sa, sc, rfl, hg, hus, hV, hn, _⟩ := H.ow.volc hk
 have hu : k < us.length := by rw [H.ow.len]; exact hk
 have hs16 : x.vs[k].mp.length ≤ 16777216 := hl.2 _ (List.getElem_mem hk)
 have HS2 := hid (volume_any D x g 0 x.vs.length c k o dv po w H.dr hk)
 have hDl := H.dr.lt
 have hgl := (H.ow.blk hg).2.1
 have hne := H.ow.ne hg hu
 rw [hus] at hne
 have HU : Hid (∀ W2, W2.heap = w.heap → Below w.heap.size w W2 → DrV B W2 D x (.slice (some ⟨g, 0, none⟩) x.vs.length c) us o dv (k : Int) po) := fun W2 _ hb => H.next hb
 have HUS := hid hus
 have HL := hid hs16
 have HHB := hid hB
 have HHU := hid hu
 generalize hs : x.vs[k] = s at *
 obtain ⟨_, _, _, _, _, _, k6⟩ := hV
 have HHS := hid hs
 have HHK := hid hk
 have HK6 := hid k6
 have HDG : Hid (D < w.heap.size ∧ g < w.heap.size ∧ D ≠ g) := ⟨hDl, hgl, fun e => H.ne.1 (by rw [hg, e])⟩
 have HNE := hid hne
 clear hus hn hs k6 hs16 hl hgl hDl hB hg hne
 go_enter Tryz.func72, Tryz.ntmps72
 go_wp2_with fail
 refine HS2.out.mono ?_
 rintro e w2 ⟨rfl, q, rfl⟩
 obtain ⟨W2, hW2⟩ : ∃ W2, W2 = w.drewN q := ⟨_, rfl⟩
 have hH2 : W2.heap = w.heap := by rw [hW2]; rfl
 have hb2 : Below w.heap.size w W2 := by rw [hW2]; exact below_drewN' _ _ _
 have H2 := HU.out W2 hH2 hb2
 rw [← hW2]
 simp only [Nat.zero_add]
 obtain ⟨_, _, _, _, _, _, _, k7, k8, _⟩ := H2.dr.cs
 have k6 : W2.cell? ⟨g, k * 7 + 6, none⟩ = some (.slice sa s.mp.length sc) := by rw [← HK6.out]; simp only [World.cell?, hH2]
 obtain ⟨r, hr⟩ : ∃ r : Rg, r = ⟨o.fr, o.tt⟩ := ⟨_, rfl⟩
 obtain ⟨W3, hW3⟩ : ∃ W3, W3 = (W2.alloc (.cells #[.int .i64 o.fr, .int .i64 (o.tt)] 78)).drew := ⟨_, rfl⟩
 have b3 : Below W2.heap.size W2 W3 := by rw [hW3]; exact below_dr (below1 _ _)
 have H3 := H2.next b3
 have hR3 : RgB W3 W2.heap.size r := by rw [hW3]; rw [hr]; exact heap_new W2 _
 have hd3 := H3.ow.dat k HHK.out
 rw [HUS.out, HHS.out] at hd3
 have HC := hid (join_any B W2.heap.size (.slice sa s.mp.length sc) s.mp r W3 HL.out (by have := HHB.out; have := hb2.size; have := b3.size; omega) hd3 hR3)
 have HK3 : Hid (W3.cell? ⟨g, k * 7 + 6, none⟩ = some (.slice sa s.mp.length sc) ∧ W3.cell? ⟨D, 7, none⟩ = some (.int .i64 o.fr) ∧ W3.cell? ⟨D, 8, none⟩ = some (.int .i64 o.tt)) := ⟨(b3.cell (by have := HDG.out; rw [hH2]; exact this.2.1)).trans k6, (b3.cell (by have := HDG.out; rw [hH2]; exact this.1)).trans k7, (b3.cell (by have := HDG.out; rw [hH2]; exact this.1)).trans k8⟩
 have HK4 : Hid (∀ w4, W3.grownBy w4 (Value.slice sa s.mp.length sc).ownBlock → w4.cell? ⟨g, k * 7 + 6, none⟩ = some (.slice sa s.mp.length sc) ∧ w4.cell? ⟨D, 7, none⟩ = some (.int .i64 o.fr) ∧ w4.cell? ⟨D, 8, none⟩ = some (.int .i64 o.tt)) := fun w4 hq => by
  obtain ⟨z0, z1, z2⟩ := HK3.out
  have hgk : w4.heap[g]? = W3.heap[g]? := hq.block g (by have := HDG.out; have := hb2.size; have := b3.size; omega) (fun e => HNE.out e.symm)
  have hDk : w4.heap[D]? = W3.heap[D]? := hq.block D (by have := HDG.out; have := hb2.size; have := b3.size; omega) (fun e => H3.ne.2 k HHU.out (by rw [HUS.out]; exact e.symm))
  simp only [World.cell?, hgk, hDk] at z0 z1 z2 ⊢
  exact ⟨z0, z1, z2⟩
 have HF : Hid (∀ w4 z, OwR B w4 z (joinP s.mp r) → W3.grownBy w4 (Value.slice sa s.mp.length sc).ownBlock → OwnB W3 (.slice sa s.mp.length sc) z → (∃ u' us', DrV B (w4.setCell ⟨g, k * 7 + 6, none⟩ z) D ⟨x.cp, x.fr, x.nx, x.vs.set k (setMp s (joinP s.mp r))⟩ u' us' o dv (k : Int) po) ∧ w4.frozen? ⟨g, k * 7 + 6, none⟩ = false ∧ BelK B w (w4.setCell ⟨g, k * 7 + 6, none⟩ z) ∧ True) := fun w4 z hz hq ho => by
  have := H3.upd (Nat.le_trans HHB.out (Nat.le_trans hb2.size b3.size)) HHK.out HHU.out hz (by rw [HUS.out]; exact hq) (by rw [HUS.out]; exact ho)
  rw [HHS.out] at this
  refine ⟨⟨_, _, this.1⟩, this.2.1, (BelK.low (hb2.trans (b3.mono hb2.size)) rfl HHB.out).trans this.2.2.1, trivial⟩
 have HW3 := hid hW3
 have mixed : Tryz.prog.follows Departure.mixedOrders = true := by kernel_rfl
 rw [hr] at HF
 rw [hr] at HC
 clear hr
 clear hW2 hH2 hb2 H2 hW3 b3 H3 hR3 hd3 HU HS2
 go_wp2_with fail
 refine wp_region_last (S := (fun y => y.cell? ⟨g, k * 7 + 6, none⟩ = some (.slice sa s.mp.length sc) ∧ y.cell? ⟨D, 7, none⟩ = some (.int .i64 o.fr) ∧ y.cell? ⟨D, 8, none⟩ = some (.int .i64 o.tt))) 20 20 (by kernel_rfl) (by kernel_rfl) (by kernel_rfl) ⟨k6, k7, k8⟩ (fun hSS => ?_)
 refine Ti 0 rfl ?_
 try simp only [Act.put, zA, zB, zC]
 refine Ti 1 rfl ?_
 refine Ti 2 rfl ?_
 refine Ti 3 rfl ?_
 refine Ti 4 rfl ?_
 try simp only [Act.put, zA, zB, zC]
 refine Ti 5 rfl ?_
 refine Ti 6 rfl ?_
 refine Ti 7 rfl ?_
 refine Ti 8 rfl ?_
 try simp only [Act.put, zA, zB, zC]
 refine Ti 9 rfl ?_
 refine Ti 10 rfl ?_
 refine Ti 11 rfl ?_
 refine Ti 12 rfl ?_
 try simp only [Act.put, zA, zB, zC]
 refine Ti 13 rfl ?_
 refine Ti 14 rfl ?_
 refine Ti 15 rfl ?_
 try simp only [Act.put, zA, zB, zC]
 refine Ri 16 rfl (fun K9 hK9 => ?_)
 go_simp
 refine hK9.out _ _ (by have q := HK3.out; rw [HW3.out] at q; exact q) (fun hSS => ?_)
 try simp only [Act.put, zA, zB, zC]
 refine Ri 17 rfl (fun K9 hK9 => ?_)
 go_simp
 go_at_call 101
 rw [← HW3.out]
 refine HC.out.mono ?_
 rintro e w4 ⟨z, rfl, hz, hgr, hob⟩
 obtain ⟨za, zc, rfl⟩ := own_any hz
 obtain ⟨hN, fz, hbb, hdr⟩ := HF.out w4 _ hz hgr hob
 have k6 := (HK4.out w4 hgr).1
 refine hK9.out _ _ (HK4.out w4 hgr) (fun hSS => ?_)
 try simp only [Act.put, zA, zB, zC]
 refine Ti 18 rfl ?_
 refine Ti 19 rfl ?_
 try simp only [Act.put, zA, zB, zC]
 refine Dn ?_
 refine last_step (L := 20) (o := ({ dst := none, op := Op.store 36 (Operand.tmp 24) (Operand.tmp 22), type := 0, pos := _, after := _, guard := none } : Oper)) rfl (fun K9 hK9 => ?_)
 go_simp
 refine hK9.out _ _ ?_
 try simp only [Act.put, zA, zB, zC]
 go_wp2
 go_end0
 exact ⟨rfl, hN, hbb⟩
set_option maxRecDepth 100000 in
set_option maxHeartbeats 4000000 in
theorem extend_any (B D : Nat) (x : VW) (u : Value) (us : List Value) (o : OW) (dv : Value) (pn po : Int) (w : World) (H : DrV B w D x u us o dv pn po) (hB : B ≤ w.heap.size) :
  Calls Tryz.prog 74 #[.pointer (some ⟨D, 0, none⟩)] w fun e w' => DoQ B w D ⟨o.tt, x.fr, x.nx, x.vs⟩ o dv pn po e w' := by
 obtain ⟨k0, _, _, _, _, _, _, _, k8, _⟩ := H.dr.cs
 have f0 := H.dr.fz 0
 have HQ : Hid (DoQ B w D ⟨o.tt, x.fr, x.nx, x.vs⟩ o dv pn po (.returned (.tuple #[])) (w.setCell ⟨D, 0, none⟩ (.int .i64 o.tt))) := ⟨rfl, ⟨u, us, H.dr.setC rfl rfl rfl, H.ow.set H.ne.1 H.ne.2 _, H.ap, H.hD⟩, (BelK.low (Below.refl w.heap.size w) rfl hB).set (p := ⟨D, 0, none⟩) H.hD H.kd _⟩
 clear H
 go_enter Tryz.func74, Tryz.ntmps74
 go_wp2
 go_end0
 exact HQ.out
end Go.Proofs.YtddddfankeepkaaGreatDoor
namespace Go.Proofs.YtddddfankeepkaaGreatDoor
open Go.RowKit
def rszP (v : PV) (n : Int) : PV := setMp (setSz v n) (cutP v.mp ⟨n, 262144⟩)
set_option maxRecDepth 100000 in
set_option maxHeartbeats 8000000 in
theorem resize_any (B D : Nat) (x : VW) (u : Value) (us : List Value) (o : OW) (dv : Value) (k : Nat) (po : Int) (w : World) (H : DrV B w D x u us o dv (k : Int) po) (hk : k < x.vs.length) (hl : shV x.vs) (hB : B ≤ w.heap.size) :
  Calls Tryz.prog 63 #[.pointer (some ⟨D, 0, none⟩)] w fun e w' => DoQ B w D ⟨x.cp, x.fr, x.nx, x.vs.set k (rszP x.vs[k] o.tt)⟩ o dv (k : Int) po e w' := by
 obtain ⟨g, c, sa, sc, rfl, hg, hus, hV, hn, hfr⟩ := H.ow.volc hk
 have hu : k < us.length := by rw [H.ow.len]; exact hk
 have hs16 : x.vs[k].mp.length ≤ 16777216 := hl.2 _ (List.getElem_mem hk)
 have HS2 := hid (volume_any D x g 0 x.vs.length c k o dv po w H.dr hk)
 have hDl := H.dr.lt
 have hgl := (H.ow.blk hg).2.1
 have hne := H.ow.ne hg hu
 rw [hus] at hne
 have HU : Hid (∀ W2, W2.heap = w.heap → Below w.heap.size w W2 → DrV B W2 D x (.slice (some ⟨g, 0, none⟩) x.vs.length c) us o dv (k : Int) po) := fun W2 _ hb => H.next hb
 have HUS := hid hus
 have HL := hid hs16
 have HHB := hid hB
 have HHU := hid hu
 have HFR := hid (hfr (k * 7 + 2))
 generalize hs : x.vs[k] = s at *
 obtain ⟨_, _, k2, _, _, _, k6⟩ := hV
 have HHS := hid hs
 have HK6 := hid k6
 have HK2 := hid k2
 have HDG : Hid (D < w.heap.size ∧ g < w.heap.size ∧ D ≠ g) := ⟨hDl, hgl, fun e => H.ne.1 (by rw [hg, e])⟩
 have HNE := hid hne
 clear hus hn hs k6 k2 hs16 hl hgl hDl hB hg hne hfr
 go_enter Tryz.func63, Tryz.ntmps63
 go_wp2_with fail
 refine HS2.out.mono ?_
 rintro e w1 ⟨rfl, q, rfl⟩
 obtain ⟨W1, hW1⟩ : ∃ W1, W1 = w.drewN q := ⟨_, rfl⟩
 have hH1 : W1.heap = w.heap := by rw [hW1]; rfl
 have hb1 : Below w.heap.size w W1 := by rw [hW1]; exact below_drewN' _ _ _
 have H1 := HU.out W1 hH1 hb1
 rw [← hW1]
 simp only [Nat.zero_add]
 obtain ⟨_, _, _, _, _, _, _, _, k8, _⟩ := H1.dr.cs
 have k6 : W1.cell? ⟨g, k * 7 + 6, none⟩ = some (.slice sa s.mp.length sc) := by rw [← HK6.out]; simp only [World.cell?, hH1]
 have k2 : W1.cell? ⟨g, k * 7 + 2, none⟩ = some (.int .i64 s.sz) := by rw [← HK2.out]; simp only [World.cell?, hH1]
 have f2 : W1.frozen? ⟨g, k * 7 + 2, none⟩ = false := by rw [← HFR.out]; simp only [World.frozen?, hH1]
 obtain ⟨W2, hW2⟩ : ∃ W2, W2 = W1.setCell ⟨g, k * 7 + 2, none⟩ (.int .i64 o.tt) := ⟨_, rfl⟩
 have H2 : DrV B W2 D ⟨x.cp, x.fr, x.nx, x.vs.set k (setSz x.vs[k] o.tt)⟩ (.slice (some ⟨g, 0, none⟩) x.vs.length c) us o dv (k : Int) po := by rw [hW2]; exact H1.updS o.tt hk
 have hb2 : BelK B w W2 := by
  rw [hW2]
  exact (BelK.low hb1 rfl HHB.out).set (p := ⟨g, k * 7 + 2, none⟩) (H1.ow.blk rfl).1 (KdOk.own H1.ow.row rfl (by decide) (by decide)).2 _
 have hz2 : W2.heap.size = w.heap.size := by rw [hW2, ← hH1]; simp [World.setCell]
 have k6' : W2.cell? ⟨g, k * 7 + 6, none⟩ = some (.slice sa s.mp.length sc) := by rw [hW2, World.cell?_setCell_other _ _ _ _ (by simp)]; exact k6
 have k8' : W2.cell? ⟨D, 8, none⟩ = some (.int .i64 o.tt) := by
  have := HDG.out.2.2
  rw [hW2, World.cell?_setCell_far _ _ _ _ (by exact fun e => this e.symm)]
  exact k8
 obtain ⟨r, hr⟩ : ∃ r : Rg, r = ⟨o.tt, 262144⟩ := ⟨_, rfl⟩
 obtain ⟨W3, hW3⟩ : ∃ W3, W3 = (W2.alloc (.cells #[.int .i64 o.tt, .int .i64 262144] 78)).drew := ⟨_, rfl⟩
 have b3 : Below W2.heap.size W2 W3 := by rw [hW3]; exact below_dr (below1 _ _)
 have H3 := H2.next b3
 have hR3 : RgB W3 W2.heap.size r := by rw [hW3, hr]; exact heap_new W2 _
 have hk2 : k < (x.vs.set k (setSz x.vs[k] o.tt)).length := by rw [List.length_set]; exact hk
 have hget : (x.vs.set k (setSz x.vs[k] o.tt))[k]'hk2 = setSz s o.tt := by rw [List.getElem_set, if_pos rfl]; exact congrArg (fun v => setSz v o.tt) HHS.out
 have hd3 := H3.ow.dat k hk2
 rw [HUS.out, hget] at hd3
 have hlen2 : (x.vs.set k (setSz x.vs[k] o.tt)).length = x.vs.length := List.length_set ..
 have HC := hid (cut_any B W2.heap.size (.slice sa s.mp.length sc) s.mp r W3 HL.out (by have := HHB.out; have := b3.size; omega) hd3 hR3)
 have HK3 : Hid (W3.cell? ⟨g, k * 7 + 6, none⟩ = some (.slice sa s.mp.length sc) ∧ W3.cell? ⟨D, 8, none⟩ = some (.int .i64 o.tt)) := ⟨(b3.cell (by have := HDG.out; rw [hz2]; exact this.2.1)).trans k6', (b3.cell (by have := HDG.out; rw [hz2]; exact this.1)).trans k8'⟩
 have HK4 : Hid (∀ w4, W3.grownBy w4 (Value.slice sa s.mp.length sc).ownBlock → w4.cell? ⟨g, k * 7 + 6, none⟩ = some (.slice sa s.mp.length sc) ∧ w4.cell? ⟨D, 8, none⟩ = some (.int .i64 o.tt)) := fun w4 hq => by
  obtain ⟨z0, z2⟩ := HK3.out
  have hgk : w4.heap[g]? = W3.heap[g]? := hq.block g (by have := HDG.out; have := b3.size; omega) (fun e => HNE.out e.symm)
  have hDk : w4.heap[D]? = W3.heap[D]? := hq.block D (by have := HDG.out; have := b3.size; omega) (fun e => H3.ne.2 k HHU.out (by rw [HUS.out]; exact e.symm))
  simp only [World.cell?, hgk, hDk] at z0 z2 ⊢
  exact ⟨z0, z2⟩
 have HF : Hid (∀ w4 z, OwR B w4 z (cutP s.mp r) → W3.grownBy w4 (Value.slice sa s.mp.length sc).ownBlock → OwnB W3 (.slice sa s.mp.length sc) z → (∃ u' us', DrV B (w4.setCell ⟨g, k * 7 + 6, none⟩ z) D ⟨x.cp, x.fr, x.nx, x.vs.set k (rszP s o.tt)⟩ u' us' o dv (k : Int) po) ∧ w4.frozen? ⟨g, k * 7 + 6, none⟩ = false ∧ BelK B w (w4.setCell ⟨g, k * 7 + 6, none⟩ z) ∧ True) := fun w4 z hz hq ho => by
  have H3' := H3
  rw [← hlen2] at H3'
  have := H3'.upd (by have := HHB.out; have := b3.size; omega) hk2 HHU.out hz (by rw [HUS.out]; exact hq) (by rw [HUS.out]; exact ho)
  rw [hget] at this
  dsimp only at this
  rw [List.set_set] at this
  refine ⟨⟨_, _, by have q := this.1; rw [hr] at q; exact q⟩, this.2.1, (hb2.trans (BelK.low b3 rfl (by rw [hz2]; exact HHB.out))).trans this.2.2.1, trivial⟩
 have HW3 := hid hW3
 have HW2 := hid hW2
 rw [hr] at HF
 rw [hr] at HC
 have mixed : Tryz.prog.follows Departure.mixedOrders = true := by kernel_rfl
 have hDg : ¬ (D = g) := HDG.out.2.2
 have hgD : ¬ (g = D) := fun e => hDg e.symm
 clear hW1 hH1 hb1 H1 hb2 H2 hW3 b3 H3 hR3 hd3 HU HS2 hr hW2 hz2 hget hlen2 hk2
 go_wp2_with fail
 rw [← HW2.out]
 refine wp_region_last (S := (fun y => y.cell? ⟨g, k * 7 + 6, none⟩ = some (.slice sa s.mp.length sc) ∧ y.cell? ⟨D, 8, none⟩ = some (.int .i64 o.tt))) 15 15 (by kernel_rfl) (by kernel_rfl) (by kernel_rfl) ⟨k6', k8'⟩ (fun hSS => ?_)
 refine Ti 0 rfl ?_
 refine Ti 1 rfl ?_
 refine Ti 2 rfl ?_
 refine Ti 3 rfl ?_
 try simp only [Act.put, zA, zB, zC]
 refine Ti 4 rfl ?_
 refine Ti 5 rfl ?_
 refine Ti 6 rfl ?_
 refine Ti 7 rfl ?_
 try simp only [Act.put, zA, zB, zC]
 refine Ti 8 rfl ?_
 refine Ti 9 rfl ?_
 refine Ti 10 rfl ?_
 try simp only [Act.put, zA, zB, zC]
 refine Ri 11 rfl (fun K9 hK9 => ?_)
 go_simp
 refine hK9.out _ _ (by have q := HK3.out; rw [HW3.out] at q; exact q) (fun hSS => ?_)
 try simp only [Act.put, zA, zB, zC]
 refine Ri 12 rfl (fun K9 hK9 => ?_)
 go_simp
 go_at_call 96
 rw [← HW3.out]
 refine HC.out.mono ?_
 rintro e w4 ⟨z, rfl, hz, hgr, hob⟩
 obtain ⟨za, zc, rfl⟩ := own_any hz
 obtain ⟨hN, fz, hbb, hdr⟩ := HF.out w4 _ hz hgr hob
 have k6 := (HK4.out w4 hgr).1
 refine hK9.out _ _ (HK4.out w4 hgr) (fun hSS => ?_)
 try simp only [Act.put, zA, zB, zC]
 refine Ti 13 rfl ?_
 refine Ti 14 rfl ?_
 try simp only [Act.put, zA, zB, zC]
 refine Dn ?_
 refine last_step (L := 15) (o := ({ dst := none, op := Op.store 36 (Operand.tmp 27) (Operand.tmp 25), type := 0, pos := _, after := _, guard := none } : Oper)) rfl (fun K9 hK9 => ?_)
 go_simp
 refine hK9.out _ _ ?_
 try simp only [Act.put, zA, zB, zC]
 go_wp2
 go_end0
 exact ⟨rfl, hN, hbb⟩
end Go.Proofs.YtddddfankeepkaaGreatDoor
namespace Go.Proofs.YtddddfankeepkaaGreatDoor
open Go.RowKit
set_option maxRecDepth 100000 in
set_option maxHeartbeats 8000000 in
theorem rename_any (B D : Nat) (x : VW) (u : Value) (us : List Value) (o : OW) (dv : Value) (k : Nat) (po : Int) (w : World) (H : DrV B w D x u us o dv (k : Int) po) (hk : k < x.vs.length) (hl : x.vs.length ≤ 16777216) (hB : B ≤ w.heap.size) :
  Calls Tryz.prog 65 #[.pointer (some ⟨D, 0, none⟩)] w fun e w' => DoQ B w D ⟨x.cp, x.fr, x.nx, layP (x.vs.eraseIdx k) (setNm x.vs[k] o.ot)⟩ o dv (k : Int) po e w' := by
 obtain ⟨g, c, sa, sc, rfl, hg, hus, hV, hn, _⟩ := H.ow.volc hk
 have hu : k < us.length := by rw [H.ow.len]; exact hk
 have HS2 := hid (volume_any D x g 0 x.vs.length c k o dv po w H.dr hk)
 have hgl := (H.ow.blk hg).2.1
 have hdk := H.ow.dat k hk
 rw [hus] at hdk
 generalize hs : x.vs[k] = s at *
 have HU : Hid (∀ W1, W1.heap = w.heap → Below w.heap.size w W1 → ∃ W2 P, P = W1.heap.size ∧ W2 = W1.alloc (.cells #[.string s.nm, .int .i64 s.id, .int .i64 s.sz, .int .i64 s.og, .int .i64 s.kd, .bool s.pt, .slice sa s.mp.length sc] 38) ∧ Calls Tryz.prog 67 #[.pointer (some ⟨D, 0, none⟩)] W2 fun e w3 => e = .returned (.tuple #[]) ∧ (w3.cell? ⟨D, 6, none⟩ = some (.string o.ot) ∧ D ≠ P) ∧ (w3.cell? ⟨P, 0, none⟩ = some (.string s.nm) ∧ w3.cell? ⟨P, 1, none⟩ = some (.int .i64 s.id) ∧ w3.cell? ⟨P, 2, none⟩ = some (.int .i64 s.sz) ∧ w3.cell? ⟨P, 3, none⟩ = some (.int .i64 s.og) ∧ w3.cell? ⟨P, 4, none⟩ = some (.int .i64 s.kd) ∧ w3.cell? ⟨P, 5, none⟩ = some (.bool s.pt) ∧ w3.cell? ⟨P, 6, none⟩ = some (.slice sa s.mp.length sc) ∧ w3.frozen? ⟨P, 0, none⟩ = false) ∧ Hid (∀ w4, w4 = w3.setCell ⟨P, 0, none⟩ (.string o.ot) → Calls Tryz.prog 97 #[.pointer (some ⟨D, 0, none⟩), .agg #[.string o.ot, .int .i64 s.id, .int .i64 s.sz, .int .i64 s.og, .int .i64 s.kd, .bool s.pt, .slice sa s.mp.length sc]] w4 fun e w' => DoQ B w D ⟨x.cp, x.fr, x.nx, layP (x.vs.eraseIdx k) (setNm s o.ot)⟩ o dv (k : Int) po e w')) := fun W1 hH1 hb1 => by
  have hz1 : W1.heap.size = w.heap.size := by rw [hH1]
  have hV1 : VoB (W1.alloc (.cells #[.string s.nm, .int .i64 s.id, .int .i64 s.sz, .int .i64 s.og, .int .i64 s.kd, .bool s.pt, .slice sa s.mp.length sc] 38)) W1.heap.size s (.slice sa s.mp.length sc) := heap_new _ _
  refine ⟨_, _, rfl, rfl, ?_⟩
  generalize hW2 : W1.alloc (.cells #[.string s.nm, .int .i64 s.id, .int .i64 s.sz, .int .i64 s.og, .int .i64 s.kd, .bool s.pt, .slice sa s.mp.length sc] 38) = W2 at *
  have b2 : Below w.heap.size w W2 := by rw [← hW2]; exact hb1.alloc hb1.size _
  have H2 := H.next b2
  refine (remove_any B D x _ us o dv k po W2 H2 hk hl).mono fun e w3 hq => ?_
  obtain ⟨rfl, ⟨u', H3, hob⟩, hbut⟩ := hq
  have hDP : D ≠ W1.heap.size := by have := H.dr.lt; omega
  have hPg : ¬ ((Value.slice (some ⟨g, 0, none⟩) x.vs.length c).ownBlock = some W1.heap.size) := fun e => by
   have : some g = some W1.heap.size := e
   simp only [Option.some.injEq] at this
   omega
  have hPk : w3.heap[W1.heap.size]? = W2.heap[W1.heap.size]? := hbut.block _ hV1.lt (fun h => h.elim (fun e => hDP e.symm) hPg)
  have hV3 := hV1.keep hPk
  obtain ⟨⟨m0, m1, m2, m3, m4, m5, m6⟩, mf⟩ := hV3.cs
  obtain ⟨_, _, _, _, _, _, k6, _⟩ := H3.dr.cs
  refine ⟨rfl, ⟨k6, hDP⟩, ⟨m0, m1, m2, m3, m4, m5, m6, mf 0⟩, hid (fun w4 hw4 => ?_)⟩
  have hd3 : OwR B w3 (.slice sa s.mp.length sc) s.mp := by
   refine own_keep (own_next hdk b2) fun b hb => hbut.block b (own_blk (own_next hdk b2) hb).2.1 (fun h => ?_)
   rcases h with h | h
   ·rw [h] at hb
    exact H.ne.2 k hu (by rw [hus]; exact hb)
   ·exact H.ow.ne h hu (by rw [hus]; exact hb)
  have hPl : ∀ {z : Value} {n : Nat} {t : TypeId} {m : Nat} {xs : List Value}, w3.ownsRow B t n z m xs → t ≠ 38 → z.ownBlock ≠ some W1.heap.size := fun hz ht e => by
   obtain ⟨_, _, cur, hc⟩ := own_blk hz e
   exact absurd (row_kind hc hV3) ht
  have hun : u'.ownBlock ≠ some W1.heap.size := fun e => by
   have hP2 := hV1.lt
   rcases hob _ e with h | h
   ·exact hPg h
   ·omega
  have H4 : DrV B w4 D ⟨x.cp, x.fr, x.nx, x.vs.eraseIdx k⟩ u' (us.eraseIdx k) o dv (k : Int) po := by
   rw [hw4]
   exact ⟨H3.dr.keep (Below.heap_setCell _ _ _ _ hDP), H3.ow.set (p := ⟨W1.heap.size, 0, none⟩) hun (fun i hi => hPl (H3.ow.dat i (by rw [← H3.ow.len]; exact hi)) (by decide)) _, H3.ap, H3.hD⟩
  have hb4 : BelK B w w4 := by
   have q : BelK B W2 w3 := BelK.but hbut (by have := b2.size; omega) (fun y h => by
    rcases h with h | h
    ·rw [h]
     exact ⟨H2.hD, H2.kd⟩
    ·exact KdOk.own H2.ow.row h (by decide) (by decide))
   rw [hw4]
   exact ((BelK.low b2 rfl hB).trans q).set (p := ⟨W1.heap.size, 0, none⟩) (by show B ≤ W1.heap.size; omega) ⟨_, _, _, hV3, by decide, by decide⟩ _
  refine (lay_any B D ⟨x.cp, x.fr, x.nx, x.vs.eraseIdx k⟩ u' (us.eraseIdx k) o dv (k : Int) po (setNm s o.ot) sa sc w4 H4 ?_ ?_ ?_ (by have := hb4.size; omega)).mono fun e w' hq => ⟨hq.1, hq.2.1, hb4.trans hq.2.2⟩
  ·rw [hw4]
   exact own_set hd3 (p := ⟨W1.heap.size, 0, none⟩) (hPl hd3 (by decide)) _
  ·intro i hi b hb e
   rw [List.getElem_eraseIdx] at hb
   have hl2 := List.length_eraseIdx_of_lt hu
   split at hb
   ·have := H.ap i k (by omega) hu b hb (by rw [hus]; exact e)
    omega
   ·have := H.ap (i + 1) k (by omega) hu b hb (by rw [hus]; exact e)
    omega
  ·show (x.vs.eraseIdx k).length ≤ _
   rw [List.length_eraseIdx_of_lt hk]
   omega
 have HV : Hid (w.cell? ⟨g, k * 7, none⟩ = some (.string s.nm) ∧ w.cell? ⟨g, k * 7 + 1, none⟩ = some (.int .i64 s.id) ∧ w.cell? ⟨g, k * 7 + 2, none⟩ = some (.int .i64 s.sz) ∧ w.cell? ⟨g, k * 7 + 3, none⟩ = some (.int .i64 s.og) ∧ w.cell? ⟨g, k * 7 + 4, none⟩ = some (.int .i64 s.kd) ∧ w.cell? ⟨g, k * 7 + 5, none⟩ = some (.bool s.pt) ∧ w.cell? ⟨g, k * 7 + 6, none⟩ = some (.slice sa s.mp.length sc)) := hV
 clear hV hus hn hs hgl hdk hl hk hB hg hu H
 go_enter Tryz.func65, Tryz.ntmps65
 go_wp2_with fail
 refine HS2.out.mono ?_
 rintro e w1 ⟨rfl, q, rfl⟩
 obtain ⟨W1, hW1⟩ : ∃ W1, W1 = w.drewN q := ⟨_, rfl⟩
 have hH1 : W1.heap = w.heap := by rw [hW1]; rfl
 have hb1 : Below w.heap.size w W1 := by rw [hW1]; exact below_drewN' _ _ _
 obtain ⟨W2, P, hP, hW2, hR⟩ := HU.out W1 hH1 hb1
 have hcl : ∀ i, W1.cell? ⟨g, i, none⟩ = w.cell? ⟨g, i, none⟩ := fun i => by simp only [World.cell?, hH1]
 obtain ⟨v0, v1, v2, v3, v4, v5, v6⟩ := HV.out
 rw [← hcl] at v0 v1 v2 v3 v4 v5 v6
 rw [← hW1]
 simp only [Nat.zero_add]
 have HR := hid hR
 have HP := hid hP
 have HW2 := hid hW2
 clear hW1 hH1 hb1 hP hW2 hR hcl HU HS2
 go_wp2_with fail
 rw [← HW2.out, ← HP.out]
 refine HR.out.mono ?_
 rintro e w3 ⟨rfl, ⟨k6, hDP⟩, ⟨m0, m1, m2, m3, m4, m5, m6, mf⟩, HL⟩
 have hDP2 : ¬ (P = D) := fun e => hDP e.symm
 obtain ⟨W4, hW4⟩ : ∃ W4, W4 = w3.setCell ⟨P, 0, none⟩ (.string o.ot) := ⟨_, rfl⟩
 have HL4 := hid (HL.out W4 hW4)
 have HW4 := hid hW4
 clear hW4 HL HR HW2 HP v0 v1 v2 v3 v4 v5 v6
 go_wp2_with fail
 rw [← HW4.out]
 refine HL4.out.mono ?_
 rintro e w5 ⟨rfl, h1, h2⟩
 have HQ : Hid (DoQ B w D ⟨x.cp, x.fr, x.nx, layP (x.vs.eraseIdx k) (setNm s o.ot)⟩ o dv (k : Int) po (.returned (.tuple #[])) w5) := ⟨rfl, h1, h2⟩
 clear h1 h2 HL4
 go_wp2
 go_end0
 exact HQ.out
theorem set_below {w w3 : World} {p : Addr} {z : Value} (h : Below w.heap.size w w3) : ∀ y, y < w.heap.size → (w3.setCell p z).heap[y]? = (w.setCell p z).heap[y]? := fun y hy => by
 have := h.block y hy
 by_cases e : p.block = y
 ·subst e
  simp [World.setCell, Array.getElem?_modify, this]
 ·rw [Below.heap_setCell _ _ _ _ (by exact fun q => e q.symm), Below.heap_setCell _ _ _ _ (by exact fun q => e q.symm), this]
set_option maxRecDepth 100000 in
set_option maxHeartbeats 8000000 in
theorem restore_any (B D : Nat) (x : VW) (u : Value) (us : List Value) (o : OW) (dv : Value) (k j : Nat) (w : World) (H : DrV B w D x u us o dv (k : Int) (j : Int)) (hk : k < x.vs.length) (hj : j < x.vs.length) (hl : shV x.vs) (hB : B ≤ w.heap.size) :
  Calls Tryz.prog 68 #[.pointer (some ⟨D, 0, none⟩)] w fun e w' => DoQ B w D ⟨x.cp, x.fr, x.nx, x.vs.set k (setMp (setSz x.vs[k] x.vs[j].sz) x.vs[j].mp)⟩ o dv (k : Int) (j : Int) e w' := by
 obtain ⟨g, c, sa, sc, rfl, hg, hus, hV, hn, hfr⟩ := H.ow.volc hj
 obtain ⟨g', c', ka, kc, e', _, husk, hVk, _, _⟩ := H.ow.volc hk
 simp only [Value.slice.injEq, Option.some.injEq, Addr.mk.injEq, true_and, and_true] at e'
 obtain ⟨rfl, rfl⟩ := e'
 have hu : k < us.length := by rw [H.ow.len]; exact hk
 have hs16 : x.vs[j].mp.length ≤ 16777216 := hl.2 _ (List.getElem_mem hj)
 have HSv := hid (volume_any D x g 0 x.vs.length c k o dv (j : Int) w H.dr hk)
 have HSs : Hid (∀ q, Calls Tryz.prog 92 #[.pointer (some ⟨D, 0, none⟩)] (w.drewN q) fun e w' => e = .returned (.pointer (some ⟨g, 0 + j * 7, none⟩)) ∧ ∃ q', w' = (w.drewN q).drewN q') := fun q => second_any D x g 0 x.vs.length c j o dv (k : Int) (w.drewN q) H.dr hj
 have hdj := H.ow.dat j hj
 rw [hus] at hdj
 generalize hsk : x.vs[k] = t at *
 generalize hs : x.vs[j] = s at *
 have HF0 : Hid (∀ W2, W2.heap = w.heap → Below w.heap.size w W2 → (W2.cell? ⟨g, j * 7 + 2, none⟩ = some (.int .i64 s.sz) ∧ W2.cell? ⟨g, j * 7 + 6, none⟩ = some (.slice sa s.mp.length sc)) ∧ (Calls Tryz.prog 50 #[.slice sa s.mp.length sc] W2.drew fun e w' => ∃ v, e = .returned v ∧ OwR W2.drew.heap.size w' v s.mp ∧ Below W2.drew.heap.size W2.drew w') ∧ (∀ w3, Below W2.drew.heap.size W2.drew w3 → w3.cell? ⟨g, j * 7 + 2, none⟩ = some (.int .i64 s.sz) ∧ w3.cell? ⟨g, j * 7 + 6, none⟩ = some (.slice sa s.mp.length sc)) ∧ ∀ w3 za zc, OwR W2.drew.heap.size w3 (.slice za s.mp.length zc) s.mp → Below W2.drew.heap.size W2.drew w3 → (w3.cell? ⟨g, k * 7 + 2, none⟩ = some (.int .i64 t.sz) ∧ w3.frozen? ⟨g, k * 7 + 2, none⟩ = false ∧ w3.cell? ⟨g, k * 7 + 6, none⟩ = some (.slice ka t.mp.length kc) ∧ w3.frozen? ⟨g, k * 7 + 6, none⟩ = false) ∧ ((w3.setCell ⟨g, k * 7 + 2, none⟩ (.int .i64 s.sz)).cell? ⟨g, j * 7 + 2, none⟩ = some (.int .i64 s.sz) ∧ (w3.setCell ⟨g, k * 7 + 2, none⟩ (.int .i64 s.sz)).cell? ⟨g, j * 7 + 6, none⟩ = some (.slice sa s.mp.length sc)) ∧ Hid (∀ y, y = (w3.setCell ⟨g, k * 7 + 2, none⟩ (.int .i64 s.sz)).setCell ⟨g, k * 7 + 6, none⟩ (.slice za s.mp.length zc) → (∃ u' us', DrV B y D ⟨x.cp, x.fr, x.nx, x.vs.set k (setMp (setSz t s.sz) s.mp)⟩ u' us' o dv (k : Int) (j : Int)) ∧ BelK B w y)) := fun W2 hH2 hb2 => by
  have hz2 : W2.heap.size = w.heap.size := by rw [hH2]
  have H2 := H.next hb2
  have cw : ∀ i, W2.cell? ⟨g, i, none⟩ = w.cell? ⟨g, i, none⟩ := fun i => by simp only [World.cell?, hH2]
  have fw : ∀ i, W2.frozen? ⟨g, i, none⟩ = w.frozen? ⟨g, i, none⟩ := fun i => by simp only [World.frozen?, hH2]
  obtain ⟨_, _, j2, _, _, _, j6⟩ := hV
  obtain ⟨_, _, k2, _, _, _, k6⟩ := hVk
  have hgl := (H.ow.blk hg).2.1
  have hbg := (H.ow.blk hg).1
  have h3 : ∀ w3, Below W2.drew.heap.size W2.drew w3 → ∀ i, w3.heap[g]? = w.heap[g]? ∧ w3.cell? ⟨g, i, none⟩ = w.cell? ⟨g, i, none⟩ ∧ w3.frozen? ⟨g, i, none⟩ = w.frozen? ⟨g, i, none⟩ := fun w3 hb i => by
   have : w3.heap[g]? = w.heap[g]? := (hb.block g (by show g < W2.heap.size; omega)).trans (by show W2.heap[g]? = _; rw [hH2])
   exact ⟨this, by simp only [World.cell?, this], by simp only [World.frozen?, this]⟩
  refine ⟨⟨(cw _).trans j2, (cw _).trans j6⟩, ?_, fun w3 hb => ⟨(h3 w3 hb _).2.1.trans j2, (h3 w3 hb _).2.1.trans j6⟩, fun w3 za zc hz hb => ⟨⟨(h3 w3 hb _).2.1.trans k2, (h3 w3 hb _).2.2.trans (hfr _), (h3 w3 hb _).2.1.trans k6, (h3 w3 hb _).2.2.trans (hfr _)⟩, ⟨?_, ?_⟩, hid (fun y hy => ?_)⟩⟩
  ·have h1 : OwR B W2 (.slice sa s.mp.length sc) s.mp := own_next hdj hb2
   obtain ⟨a', c', e, hR, hn'⟩ := h1.rd
   simp only [Value.slice.injEq, true_and] at e
   obtain ⟨rfl, rfl⟩ := e
   exact CloneR_any sa sc s.mp W2.drew hR hn' hs16
  ·by_cases e : k = j
   ·subst e
    exact World.cell?_setCell_same _ _ _ ((h3 w3 hb _).2.1.trans j2)
   ·rw [World.cell?_setCell_other _ _ _ _ (by simp <;> omega)]
    exact (h3 w3 hb _).2.1.trans j2
  ·rw [World.cell?_setCell_other _ _ _ _ (by simp <;> omega)]
   exact (h3 w3 hb _).2.1.trans j6
  ·have hb' : Below W2.heap.size W2 w3 := undrew hb
   have hSz := H2.updS s.sz hk
   have hlen2 : (x.vs.set k (setSz x.vs[k] s.sz)).length = x.vs.length := List.length_set ..
   have hk2 : k < (x.vs.set k (setSz x.vs[k] s.sz)).length := by rw [hlen2]; exact hk
   have hget : (x.vs.set k (setSz x.vs[k] s.sz))[k]'hk2 = setSz t s.sz := by rw [List.getElem_set, if_pos rfl]; exact congrArg (fun v => setSz v s.sz) hsk
   rw [← hlen2] at hSz
   have hzg : (Value.slice za s.mp.length zc).ownBlock ≠ some g := fun e => by
    have := (own_blk hz e).1
    have : W2.drew.heap.size = W2.heap.size := rfl
    omega
   have hz4 : OwR B (w3.setCell ⟨g, k * 7 + 2, none⟩ (.int .i64 s.sz)) (.slice za s.mp.length zc) s.mp := own_set (own_mono hz (by show B ≤ W2.heap.size; omega)) (p := ⟨g, k * 7 + 2, none⟩) hzg _
   have hgr : (W2.setCell ⟨g, k * 7 + 2, none⟩ (.int .i64 s.sz)).grownBy (w3.setCell ⟨g, k * 7 + 2, none⟩ (.int .i64 s.sz)) us[k].ownBlock := ⟨hb'.os, hb'.tape, hb'.output, by simpa [World.setCell] using hb'.size, fun i hi _ => set_below hb' i (by simpa [World.setCell] using hi)⟩
   have hup := hSz.upd (Nat.le_trans (show B ≤ W2.heap.size by omega) (Nat.le_of_eq (by simp [World.setCell]))) hk2 hu hz4 hgr (fun b hbb => .inr (by
    have := (own_blk hz hbb).1
    have e1 : W2.drew.heap.size = W2.heap.size := rfl
    have e2 : (W2.setCell ⟨g, k * 7 + 2, none⟩ (.int .i64 s.sz)).heap.size = W2.heap.size := by simp [World.setCell]
    omega))
   rw [hget] at hup
   dsimp only at hup
   rw [List.set_set, ← hy] at hup
   have h1 := hup.1
   refine ⟨⟨_, _, ⟨h1.dr, ⟨h1.ow.len, h1.ow.row, h1.ow.dat⟩, h1.ap, h1.hD⟩⟩, ?_⟩
   rw [hy]
   have kg : KdOk w3 g := (KdOk.own (own_next H2.ow.row hb') rfl (by decide) (by decide)).2
   exact (((BelK.low hb2 rfl hB).trans (BelK.low hb' rfl (by omega))).set (p := ⟨g, k * 7 + 2, none⟩) hbg kg _).set (p := ⟨g, k * 7 + 6, none⟩) hbg (kg.set _ _) _
 clear H hus husk hn hs hsk hdj hl hk hj hB hg hV hVk hs16 hfr hu
 have mixed : Tryz.prog.follows Departure.mixedOrders = true := by kernel_rfl
 go_enter Tryz.func68, Tryz.ntmps68
 go_wp2_with fail
 refine HSv.out.mono ?_
 rintro e w1 ⟨rfl, q, rfl⟩
 go_wp2_with fail
 refine (HSs.out q).mono ?_
 rintro e w2 ⟨rfl, q', rfl⟩
 obtain ⟨W2, hW2⟩ : ∃ W2, W2 = (w.drewN q).drewN q' := ⟨_, rfl⟩
 have hH2 : W2.heap = w.heap := by rw [hW2]; rfl
 have hb2 : Below w.heap.size w W2 := by rw [hW2]; exact (below_drewN' _ _ _).trans (below_drewN' _ _ _)
 rw [← hW2]
 simp only [Nat.zero_add]
 obtain ⟨⟨j2, j6⟩, hCl, hK, hF⟩ := HF0.out W2 hH2 hb2
 have HCl := hid hCl
 have HK := hid hK
 have HF := hid hF
 clear hW2 hH2 hb2 hCl hK hF HF0 HSv HSs
 go_wp2_with fail
 refine wp_region_last (S := (fun y => y.cell? ⟨g, j * 7 + 2, none⟩ = some (.int .i64 s.sz) ∧ y.cell? ⟨g, j * 7 + 6, none⟩ = some (.slice sa s.mp.length sc))) 16 16 (by kernel_rfl) (by kernel_rfl) (by kernel_rfl) ⟨j2, j6⟩ (fun hSS => ?_)
 refine Ti 0 rfl ?_
 refine Ti 1 rfl ?_
 refine Ti 2 rfl ?_
 refine Ti 3 rfl ?_
 try simp only [Act.put, zA, zB, zC]
 refine Ti 4 rfl ?_
 refine Ti 5 rfl ?_
 refine Ti 6 rfl ?_
 refine Ti 7 rfl ?_
 try simp only [Act.put, zA, zB, zC]
 refine Ti 8 rfl ?_
 refine Ti 9 rfl ?_
 try simp only [Act.put, zA, zB, zC]
 refine Ri 10 rfl (fun K9 hK9 => ?_)
 go_simp
 go_at_call 50
 refine HCl.out.mono ?_
 rintro e w3 ⟨z, rfl, hz, hb3⟩
 obtain ⟨za, zc, rfl⟩ := own_any hz
 obtain ⟨⟨c2, f2, c6, f6⟩, hk13, hfin⟩ := HF.out w3 _ _ hz hb3
 refine hK9.out _ _ (HK.out w3 hb3) (fun hSS => ?_)
 try simp only [Act.put, zA, zB, zC]
 refine Ti 11 rfl ?_
 refine Ti 12 rfl ?_
 try simp only [Act.put, zA, zB, zC]
 refine Ri 13 rfl (fun K9 hK9 => ?_)
 go_simp
 refine hK9.out _ _ hk13 (fun hSS => ?_)
 try simp only [Act.put, zA, zB, zC]
 refine Ti 14 rfl ?_
 refine Ti 15 rfl ?_
 try simp only [Act.put, zA, zB, zC]
 refine Dn ?_
 refine last_step (L := 16) (o := ({ dst := none, op := Op.store 36 (Operand.tmp 22) (Operand.tmp 18), type := 0, pos := _, after := _, guard := none } : Oper)) rfl (fun K9 hK9 => ?_)
 go_simp
 refine hK9.out _ _ ?_
 try simp only [Act.put, zA, zB, zC]
 go_wp2
 go_end0
 obtain ⟨h1, h2⟩ := hfin.out _ rfl
 exact ⟨rfl, h1, h2⟩
end Go.Proofs.YtddddfankeepkaaGreatDoor
namespace Go.Proofs.YtddddfankeepkaaGreatDoor
open Go.RowKit
set_option maxRecDepth 100000 in
set_option maxHeartbeats 1000000 in
theorem CloneN (w : World) (ad : Addr) (c : Nat) :
  Calls Tryz.prog 49 #[.slice (some ad) 0 c] w fun e w' => ∃ v, e = .returned v ∧ w'.ownsRow w.heap.size 38 7 v 0 [] ∧ Below w.heap.size w w' := by
 have hr0 : (binOp .eql 22 (.slice (some ad) 0 c) (.slice none 0 0)).run Tryz.prog w = .ok (.bool false) w := Go.Lib.run_eql_slice_nil w 22 38 (some ad) _ c 0 0 Tryz.underlying22
 have ow0 : (w.alloc (.cells #[] 38)).ownsRow w.heap.size 38 7 (.slice (some ⟨w.heap.size, 0, none⟩) 0 0) 0 [] := ⟨rfl, .inr ⟨w.heap.size, 0, #[], rfl, Nat.le_refl _, heap_new _ _, Nat.le_refl _, Nat.zero_le _, rfl, rfl⟩⟩
 have b0 : Below w.heap.size w (w.alloc (.cells #[] 38)) := below1 _ _
 obtain ⟨i0, hi, hz0, hz1, hz2⟩ := info_parts info30
 obtain ⟨v', w', hr, h2, h3, _, _⟩ := run_append_own_at (P := Tryz.prog) (w.alloc (.cells #[] 38)) w.heap.size 22 22 38 i0 _ 7 80 Tryz.underlying22 hi hz0 hz1 hz2 rfl (by decide) _ 0 [] ow0 ad 0 c [] rfl (fun j u hu => by simp at hu) (fun u hu => by cases hu) (by unfold maxLen; omega) (by omega) (by simp)
 have HO := hid h2
 have HB : Hid (Below w.heap.size w w') := b0.trans ⟨h3.os, h3.tape, h3.output, h3.size, fun k hk => h3.block k (by simp; omega) (fun e => by simp [Value.ownBlock] at e; omega)⟩
 clear ow0 b0 h2 h3 hi hz0 hz1 hz2
 go_enter Tryz.func49, Tryz.ntmps49
 go_wp2_with (at_builtin; refine Lib.wpList_append_run _ rfl _ _ _ _ rfl _ _ rfl rfl _ _ hr ?_)
 go_ret
 exact ⟨v', rfl, by simpa using HO.out, HB.out⟩
theorem CloneV_gen {B : Nat} (a : Option Addr) (c : Nat) (vs : List PV) (w : World) (hB : B ≤ w.heap.size) (hR : RdV B w a vs) (ha : a = none → c = 0) (hn : vs.length ≤ 16777216) :
  ∃ us : List Value, us.length = vs.length ∧ (∀ (j : Nat) (hj : j < vs.length) (hu : j < us.length), ∃ a' c', us[j] = .slice a' vs[j].mp.length c' ∧ RdR B w a' vs[j].mp ∧ (a' = none → c' = 0)) ∧
   Calls Tryz.prog 49 #[.slice a vs.length c] w fun e w' => ∃ v, e = .returned v ∧ w'.ownsRow w.heap.size 38 7 v vs.length (flatV vs us) ∧ Below w.heap.size w w' := by
 cases a with
 | none =>
  obtain rfl : vs = [] := by
   rcases hR with h | ⟨_, _, h, _⟩
   ·exact h
   ·cases h
  obtain rfl := ha rfl
  refine ⟨[], rfl, fun j hj => by simp at hj, ?_⟩
  have hr : (binOp .eql 22 (.slice none 0 0) (.slice none 0 0)).run Tryz.prog w = .ok (.bool true) w := Go.Lib.run_eql_slice_nil w 22 38 none 0 0 0 0 Tryz.underlying22
  have HO : Hid (w.ownsRow w.heap.size 38 7 (.slice none 0 0) 0 (flatV [] [])) := ⟨rfl, .inl ⟨rfl, rfl⟩⟩
  have HB := hid (Below.refl w.heap.size w)
  clear hR ha hn
  show Calls Tryz.prog 49 #[.slice none 0 0] w _
  go_enter Tryz.func49, Tryz.ntmps49
  go_wp2
  go_ret
  exact ⟨_, rfl, HO.out, HB.out⟩
 | some ad =>
  obtain ⟨b, off, sp⟩ := ad
  have hsp : vs = [] ∨ sp = none ∧ b < w.heap.size := by
   rcases hR with h | ⟨b', off', h, hlt, _⟩
   ·exact .inl h
   ·simp only [Option.some.injEq, Addr.mk.injEq] at h
    exact .inr ⟨h.2.2, by omega⟩
  rcases hsp with rfl | ⟨rfl, hb⟩
  ·refine ⟨[], rfl, fun j hj => by simp at hj, ?_⟩
   exact CloneN w ⟨b, off, sp⟩ c
  ·obtain ⟨us, h1, h2, h3, h4⟩ := hR.flat
   exact ⟨us, h1, h4, CloneV_any b off c vs us w h1 h2 h3 (.inl hb) hn⟩
theorem flatV_setU (vs : List PV) (us : List Value) (k : Nat) (hk : k < vs.length) (z : Value) (h : us.length = vs.length) : flatV vs (us.set k z) = (flatV vs us).set (k * 7 + 6) z := by
 have := flatV_set6 vs us k hk vs[k].mp z h
 rw [show setMp vs[k] vs[k].mp = vs[k] from rfl, List.set_getElem_self] at this
 exact this
theorem RdR.back {B : Nat} {w w' : World} {a : Option Addr} {rs : List Rg} (h : RdR B w' a rs) (hb : Below B w w') : RdR B w a rs := by
 rcases h with h | ⟨b, off, rfl, hlt, hc⟩
 ·exact .inl h
 ·exact .inr ⟨b, off, rfl, hlt, fun j hj => ⟨(hb.cell (by exact hlt)).symm.trans (hc j hj).1, (hb.cell (by exact hlt)).symm.trans (hc j hj).2⟩⟩
structure DfS2 (w wr : World) (P : Nat) (x : VW) (v : Value) (i : Nat) (us0 us : List Value) : Prop where
 len : us.length = x.vs.length
 len0 : us0.length = x.vs.length
 hP : w.heap.size ≤ P
 bx : VwB wr P x v
 row : wr.ownsRow w.heap.size 38 7 v x.vs.length (flatV x.vs us)
 own : ∀ (j : Nat) (hj : j < x.vs.length), j < i → OwR w.heap.size wr (us[j]'(by omega)) x.vs[j].mp
 ap : ∀ (j l : Nat) (hj : j < us.length) (hl : l < us.length) (g : Nat), j < i → l < i → us[j].ownBlock = some g → us[l].ownBlock = some g → j = l
 old : ∀ (j : Nat) (hj : j < x.vs.length), i ≤ j → us[j]'(by omega) = us0[j]'(by omega)
 bel : Below w.heap.size w wr
theorem DfS2.step {w wr w3 y : World} {P : Nat} {x : VW} {c g : Nat} {i : Nat} {us0 us : List Value} {z : Value} (h : DfS2 w wr P x (.slice (some ⟨g, 0, none⟩) x.vs.length c) i us0 us) (hi : i < x.vs.length) (hb : Below wr.heap.size wr w3) (hz : OwR wr.heap.size w3 z x.vs[i].mp) (hy : y = w3.setCell ⟨g, i * 7 + 6, none⟩ z) :
  DfS2 w y P x (.slice (some ⟨g, 0, none⟩) x.vs.length c) (i + 1) us0 (us.set i z) := by
 have hrow := own_next h.row hb
 obtain ⟨hBg, hgl, cur, hc⟩ := own_blk h.row (g := g) rfl
 have hPg : P ≠ g := fun e => by
  have := h.bx
  unfold VwB at this
  rw [e] at this
  exact absurd (row_kind hc this) (by decide)
 have hzg : z.ownBlock ≠ some g := fun e => by
  have := (own_blk hz e).1
  omega
 refine ⟨by simp [h.len], h.len0, h.hP, ?_, ?_, fun j hj hji => ?_, fun j l hj hl b hji hli h1 h2 => ?_, fun j hj hij => ?_, ?_⟩
 ·rw [hy]
  exact (h.bx.keep (hb.block _ h.bx.lt)).keep (Below.heap_setCell _ _ _ _ hPg)
 ·rw [hy, flatV_setU x.vs us i hi z h.len]
  exact (hrow.stored (i * 7 + 6) z).1
 ·simp only [List.getElem_set]
  rw [hy]
  by_cases e : i = j
  ·subst e
   rw [if_pos rfl]
   exact own_set (own_mono hz (Nat.le_trans h.bel.size (Nat.le_refl _))) (p := ⟨g, i * 7 + 6, none⟩) hzg z
  ·rw [if_neg e]
   have ho := h.own j hj (by omega)
   refine own_set (own_next ho hb) (p := ⟨g, i * 7 + 6, none⟩) (fun e2 => ?_) z
   obtain ⟨_, _, c2, hc2⟩ := own_blk ho e2
   exact absurd (row_kind hc hc2) (by decide)
 ·have hj' : j < us.length := by simpa using hj
  have hl' : l < us.length := by simpa using hl
  rw [List.getElem_set] at h1 h2
  by_cases e1 : i = j
  ·by_cases e2 : i = l
   ·omega
   ·rw [if_pos e1] at h1
    rw [if_neg e2] at h2
    have a1 := (own_blk hz h1).1
    have a2 := (own_blk (h.own l (by rw [← h.len]; exact hl') (by omega)) h2).2.1
    omega
  ·rw [if_neg e1] at h1
   by_cases e2 : i = l
   ·rw [if_pos e2] at h2
    have a1 := (own_blk hz h2).1
    have a2 := (own_blk (h.own j (by rw [← h.len]; exact hj') (by omega)) h1).2.1
    omega
   ·rw [if_neg e2] at h2
    exact h.ap j l hj' hl' b (by omega) (by omega) h1 h2
 ·rw [List.getElem_set, if_neg (by omega)]
  exact h.old j hj (by omega)
 ·rw [hy]
  exact (h.bel.trans (hb.mono h.bel.size)).setCell (p := ⟨g, i * 7 + 6, none⟩) hBg z
def o00 : OW := ⟨0, ByteArray.empty, ByteArray.empty, 0, 0⟩
def DrQ (w : World) (x : VW) (e : Ending) (w' : World) : Prop := ∃ D u us, e = .returned (.pointer (some ⟨D, 0, none⟩)) ∧ DrV w.heap.size w' D x u us o00 (.slice none 0 0) 0 0 ∧ Below w.heap.size w w'
set_option maxRecDepth 100000 in
set_option maxHeartbeats 8000000 in
theorem draftOf_any (x : VW) (a : Option Addr) (c0 : Nat) (w : World) (hl : shV x.vs) (hR : RdV w.heap.size w a x.vs) (ha : a = none → c0 = 0) :
  Calls Tryz.prog 30 #[viewA x a c0] w fun e w' => DrQ w x e w' := by
 obtain ⟨P, hP⟩ : ∃ P, P = w.heap.size := ⟨_, rfl⟩
 obtain ⟨W1, hW1⟩ : ∃ W1, W1 = w.alloc (.cells #[.int .i64 x.cp, .int .i64 x.fr, .int .i64 x.nx, .slice a x.vs.length c0] 24) := ⟨_, rfl⟩
 have b1 : Below w.heap.size w W1 := by rw [hW1]; exact below1 _ _
 have hV1 : VwB W1 P x (.slice a x.vs.length c0) := by rw [hW1, hP]; exact heap_new _ _
 obtain ⟨us0, hu0, hsl, hCl0⟩ := CloneV_gen (B := w.heap.size) a c0 x.vs W1 b1.size (hR.below b1) ha hl.1
 obtain ⟨⟨p0, p1, p2, p3⟩, pf⟩ := hV1.cs
 have f3 := pf 3
 have HCl0 := hid hCl0
 have H0 : Hid (∀ w2 v, w2.ownsRow W1.heap.size 38 7 v x.vs.length (flatV x.vs us0) → Below W1.heap.size W1 w2 → w2.cell? ⟨P, 3, none⟩ = some (.slice a x.vs.length c0) ∧ w2.frozen? ⟨P, 3, none⟩ = false ∧ ∀ y, y = w2.setCell ⟨P, 3, none⟩ v → DfS2 w y P x v 0 us0 us0) := fun w2 v hr hb2 => by
  have hV2 := hV1.keep (hb2.block _ hV1.lt)
  obtain ⟨⟨_, _, _, q3⟩, qf⟩ := hV2.cs
  refine ⟨q3, qf 3, fun y hy => ⟨hu0, hu0, by omega, by rw [hy]; exact hV2.set3 v, ?_, fun j hj h => by omega, fun j l hj hl g h => by omega, fun j hj _ => rfl, ?_⟩⟩
  ·rw [hy]
   have hlt : P < W1.heap.size := hV1.lt
   refine own_set (own_mono hr b1.size) (p := ⟨P, 3, none⟩) (fun e => ?_) v
   have : W1.heap.size ≤ P := (own_blk hr e).1
   omega
  ·rw [hy]
   exact (b1.trans (hb2.mono b1.size)).setCell (p := ⟨P, 3, none⟩) (by rw [hP]; exact Nat.le_refl _) v
 have HSL : Hid (∀ wr, Below w.heap.size w wr → ∀ (j : Nat) (hj : j < x.vs.length) (hu : j < us0.length), ∃ a' c', us0[j] = .slice a' x.vs[j].mp.length c' ∧ RdR wr.heap.size wr a' x.vs[j].mp ∧ (a' = none → c' = 0)) := fun wr hb j hj hu => by
  obtain ⟨a', c', e, hr, hn⟩ := hsl j hj hu
  exact ⟨a', c', e, ((hr.back b1).below hb).mono hb.size, hn⟩
 have HP := hid hP
 have HLN := hid hl
 have hl2 := hl.1
 obtain ⟨n, hn⟩ : ∃ n, x.vs.length = n := ⟨_, rfl⟩
 have HN := hid hn
 rw [hn] at p3 HCl0 hl2 H0 hW1
 have HW1 := hid hW1
 have mixed : Tryz.prog.follows Departure.mixedOrders = true := by kernel_rfl
 clear hP hW1 b1 hV1 hsl hCl0 hR ha hu0 pf hl hn
 dsimp only [viewA]
 rw [HN.out]
 go_enter Tryz.func30, Tryz.ntmps30
 go_wp2_with fail
 rw [← HW1.out, ← HP.out]
 refine HCl0.out.mono ?_
 rintro e w2 ⟨v, rfl, hr2, hb2⟩
 obtain ⟨va, vc, rfl⟩ := own_any hr2
 obtain ⟨q3, qf3, hI⟩ := H0.out w2 _ hr2 hb2
 have HI := hid (hI _ rfl)
 obtain ⟨W2, hW2⟩ : ∃ W2, W2 = w2.setCell ⟨P, 3, none⟩ (.slice va n vc) := ⟨_, rfl⟩
 rw [← hW2] at HI
 have t3 : W2.cell? ⟨P, 3, none⟩ = some (.slice va n vc) := HI.out.bx.cs.1.2.2.2
 have HW2 := hid hW2
 clear hr2 hb2 hI hW2 HCl0 H0 p3
 go_wp2_with fail
 rw [← HW2.out]
 go_wp2_with fail
 go_loopw [11] (fun iv wr => ∃ i us, i ≤ n ∧ iv = .int .i64 ((i : Nat) : Int) ∧ DfS2 w wr P x (.slice va n vc) i us0 us) (fun iv _ => n - (intOf iv).toNat)
 case atStart => exact ⟨0, us0, Nat.zero_le _, rfl, HI.out⟩
 case round =>
  obtain ⟨i, us, hin, rfl, hI⟩ := hrel
  by_cases hlt : i < n
  ·have hix : i < x.vs.length := by have := HN.out; omega
   obtain ⟨ma, mc, em, hRm, hnm⟩ := HSL.out wr hI.bel i hix (by have := hI.len0; omega)
   have eus : us[i]'(by have := hI.len; omega) = .slice ma x.vs[i].mp.length mc := (hI.old i hix (Nat.le_refl _)).trans em
   obtain ⟨g, c, ev⟩ : ∃ g c, (Value.slice va n vc) = .slice (some ⟨g, 0, none⟩) n c := by
    rcases own_form hI.row with ⟨e, q⟩ | ⟨g, c, e, _⟩
    ·omega
    ·exact ⟨g, c, by rw [e, HN.out]⟩
   simp only [Value.slice.injEq, true_and] at ev
   obtain ⟨rfl, rfl⟩ := ev
   have hI' := hI
   rw [← HN.out] at hI'
   obtain ⟨_, hgl, cur, hcur⟩ := own_blk hI'.row (g := g) rfl
   have k3 := hI.bx.cs.1.2.2.2
   have k6 : wr.cell? ⟨g, i * 7 + 6, none⟩ = some (.slice ma x.vs[i].mp.length mc) := by
    have h1 := flatV_at x.vs us hI.len i hix 6 (by omega)
    have h2 := World.ownsRow.cells hI'.row (g := g) rfl (i * 7 + 6) (.slice ma x.vs[i].mp.length mc) (by rw [h1, eus]; rfl)
    rw [Addr.add_lit] at h2
    simpa using h2
   have hm16 : x.vs[i].mp.length ≤ 16777216 := HLN.out.2 _ (List.getElem_mem hix)
   have HCl := hid (CloneR_any ma mc x.vs[i].mp wr.drew hRm hnm hm16)
   have hbx := hI.bx.lt
   have HK : Hid (∀ w3, Below wr.drew.heap.size wr.drew w3 → w3.cell? ⟨P, 3, none⟩ = some (.slice (some ⟨g, 0, none⟩) n vc) ∧ w3.cell? ⟨g, i * 7 + 6, none⟩ = some (.slice ma x.vs[i].mp.length mc)) := fun w3 hb => ⟨(hb.cell (by exact hbx)).trans k3, (hb.cell (by exact hgl)).trans k6⟩
   have HF : Hid (∀ w3 za zc, OwR wr.drew.heap.size w3 (.slice za x.vs[i].mp.length zc) x.vs[i].mp → Below wr.drew.heap.size wr.drew w3 → w3.frozen? ⟨g, i * 7 + 6, none⟩ = false ∧ w3.cell? ⟨g, i * 7 + 6, none⟩ = some (.slice ma x.vs[i].mp.length mc) ∧ Hid (∀ y, y = w3.setCell ⟨g, i * 7 + 6, none⟩ (.slice za x.vs[i].mp.length zc) → DfS2 w y P x (.slice (some ⟨g, 0, none⟩) n vc) (i + 1) us0 (us.set i (.slice za x.vs[i].mp.length zc)))) := fun w3 za zc hz hb => by
    have hg3 : w3.heap[g]? = wr.heap[g]? := hb.block g hgl
    refine ⟨?_, (HK.out w3 hb).2, hid (fun y hy => ?_)⟩
    ·simp only [World.frozen?, hg3, hcur]
     simp
    ·have := hI'.step hix (undrew hb) hz hy
     rw [HN.out] at this
     exact this
   generalize x.vs[i].mp = rsi at *
   have hl1 : (i : Int) < (n : Int) := by omega
   clear hI hI' hRm hnm em eus hcur hgl hm16 hbx HSL HI
   go_wp2_with fail
   refine wp_region_last (S := (fun y => y.cell? ⟨P, 3, none⟩ = some (.slice (some ⟨g, 0, none⟩) n vc) ∧ y.cell? ⟨g, i * 7 + 6, none⟩ = some (.slice ma rsi.length mc))) 12 12 (by kernel_rfl) (by kernel_rfl) (by kernel_rfl) ⟨k3, k6⟩ (fun hSS => ?_)
   refine Ti 0 rfl ?_
   refine Ti 1 rfl ?_
   refine Ti 2 rfl ?_
   refine Ti 3 rfl ?_
   try simp only [Act.put, zA, zB, zC]
   refine Ti 4 rfl ?_
   refine Ti 5 rfl ?_
   refine Ti 6 rfl ?_
   refine Ti 7 rfl ?_
   try simp only [Act.put, zA, zB, zC]
   refine Ti 8 rfl ?_
   try simp only [Act.put, zA, zB, zC]
   refine Ri 9 rfl (fun K9 hK9 => ?_)
   go_simp
   go_at_call 50
   refine HCl.out.mono ?_
   rintro e w3 ⟨z, rfl, hz, hb3⟩
   obtain ⟨za, zc, rfl⟩ := own_any hz
   obtain ⟨fz, k6, hnx⟩ := HF.out w3 _ _ hz hb3
   refine hK9.out _ _ (HK.out w3 hb3) (fun hSS => ?_)
   try simp only [Act.put, zA, zB, zC]
   refine Ti 10 rfl ?_
   refine Ti 11 rfl ?_
   try simp only [Act.put, zA, zB, zC]
   refine Dn ?_
   refine last_step (L := 12) (o := ({ dst := none, op := Op.store 36 (Operand.tmp 25) (Operand.tmp 23), type := 0, pos := _, after := _, guard := none } : Oper)) rfl (fun K9 hK9 => ?_)
   go_simp
   refine hK9.out _ _ ?_
   try simp only [Act.put, zA, zB, zC]
   go_wp2
   go_roundw
   case rel => exact ⟨i + 1, _, by omega, by go_num, hnx.out _ rfl⟩
   case measure => simp [intOf]; omega
  ·have ein : i = n := by omega
   have HD : Hid (∀ y D, D = wr.heap.size → y = wr.alloc (.cells #[.int .i64 x.cp, .int .i64 x.fr, .int .i64 x.nx, .slice va n vc, .int .i64 0, .string ByteArray.empty, .string ByteArray.empty, .int .i64 0, .int .i64 0, .slice none 0 0, .int .i64 0, .int .i64 0] 73) → DrQ w x (.returned (.pointer (some ⟨D, 0, none⟩))) y) := fun y D hD hy => by
    have b : Below wr.heap.size wr y := by rw [hy]; exact below1 _ _
    have hin2 : x.vs.length ≤ i := by have := HN.out; omega
    refine ⟨D, _, us, rfl, ⟨by rw [hy, hD]; exact heap_new _ _, ⟨hI.len, own_next hI.row b, fun j hj => own_next (hI.own j hj (by omega)) b⟩, fun j l hj hl g h1 h2 => hI.ap j l hj hl g (by have := hI.len; omega) (by have := hI.len; omega) h1 h2, by have := hI.bel.size; omega⟩, hI.bel.trans (b.mono hI.bel.size)⟩
   obtain ⟨⟨k0, k1, k2, k3⟩, _⟩ := hI.bx.cs
   have hl1 : ¬ (i : Int) < (n : Int) := by omega
   clear hI HSL HI ein
   go_wp2
   go_ret
   exact HD.out _ _ rfl rfl
end Go.Proofs.YtddddfankeepkaaGreatDoor
