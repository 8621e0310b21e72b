import Derived.Test.YtlefjidbpjkhlaaGreatN21
import Derived.Test.YtlefjidbpjkhlaaGreatN19
import Derived.Test.YtlefjidbpjkhlaaGreatN18
namespace Go.Proofs.YtlefjidbpjkhlaaGreat
open Go.RowKit Go.Deep
def Lies (a : Nat → Option Wr) (ms : List Mr) (y : Nat) (r : Wr) : Prop := a y = some r ∨ ∃ (i p : Nat) (b : Nat → Option Wr), ms[i]? = some (p, b) ∧ b y = some r
def LofA (a : Nat → Option Wr) (val : Nat → List Int) (y : Nat) : Option (List Int) := (a y).map (fun r => val r.1)
structure Wm (Z : Nat → Prop) (w : World) (x j m n nb fr bl : Nat) (a : Nat → Option Wr) (sv mv : Value) (ss : List Sp) (ms : List Mr) (val : Nat → List Int) : Prop where
 blk : Xb w x j m sv mv
 mp : ∃ D, w.ownsMap Tryz.prog 3 wrElem m n D ∧ AMx nb D a
 st : w.ownsRow 0 253 1 sv ss.length (ss.map stepV)
 mr : w.ownsRow 0 3 1 mv ms.length (ms.map (fun r => Value.int .i64 ((r.1 : Nat) : Int)))
 dat : ∀ y r, Lies a ms y r → Own w r.1 512 r.2.1 (val r.1) ∧ Pl.isB (val r.1) ∧ (y < nb ∧ homeC nb fr bl (y : Int) = 0) ∧ Z r.1
 sn : ∀ s ∈ ss, s.1 < nb
 mks : Mk a ss ms
 zx : Z x
 zm : Z m
 zs : ∀ k, sv.ownBlock = some k → Z k
 zk : ∀ k, mv.ownBlock = some k → Z k
theorem own_cur5 {w : World} {g n cap : Nat} {zs : List Int} (h : Own w g n cap zs) : ∃ cur, w.heap[g]? = some (.cells cur 5 (0, 0)) := by
 rcases h.2 with ⟨h1, _⟩ | ⟨g', cap', cur, hv, _, h2, _⟩
 ·cases h1
 ·cases hv
  exact ⟨cur, h2⟩
theorem row_cur {w : World} {base e n k : Nat} {v : Value} {xs : List Value} (h : w.ownsRow base e 1 v n xs) (hk : v.ownBlock = some k) : ∃ cur, w.heap[k]? = some (.cells cur e (0, 0)) := by
 rcases h.2 with ⟨rfl, _⟩ | ⟨g, cap, cur, rfl, _, hg, _⟩
 ·simp [Value.ownBlock] at hk
 ·have : g = k := by simpa [Value.ownBlock] using hk
  subst this
  exact ⟨cur, hg⟩
theorem cells_ne {w : World} {g k e e' : Nat} {c c' : Array Value} (h : w.heap[g]? = some (.cells c e (0, 0))) (h' : w.heap[k]? = some (.cells c' e' (0, 0))) (he : e ≠ e') : g ≠ k := fun q => by
 subst q
 rw [h] at h'
 injection h' with h'
 injection h' with _ h'
 exact he h'
theorem own_ne_x {w : World} {g n cap x j m : Nat} {zs : List Int} {sv mv : Value} (h : Own w g n cap zs) (hx : Xb w x j m sv mv) : g ≠ x := by
 obtain ⟨cur, h⟩ := own_cur5 h
 exact cells_ne h hx (by decide)
theorem own_ne_row {w : World} {g n cap base e nn k : Nat} {zs : List Int} {v : Value} {xs : List Value} (h : Own w g n cap zs) (hr : w.ownsRow base e 1 v nn xs) (he : 5 ≠ e) (hk : v.ownBlock = some k) : g ≠ k := by
 obtain ⟨cur, h⟩ := own_cur5 h
 obtain ⟨cur', h'⟩ := row_cur hr hk
 exact cells_ne h h' he
theorem own_ne_map {w : World} {g n cap m n' : Nat} {zs : List Int} {D : DataW Wr} (h : Own w g n cap zs) (hm : w.ownsMap Tryz.prog 3 wrElem m n' D) : g ≠ m := fun q => by
 subst q
 obtain ⟨cur, h⟩ := own_cur5 h
 obtain ⟨es, ck, h1, _⟩ := hm
 rw [h] at h1
 cases h1
theorem Wm.lt {Z : Nat → Prop} {w : World} {x j m n nb fr bl : Nat} {a : Nat → Option Wr} {sv mv : Value} {ss : List Sp} {ms : List Mr} {val : Nat → List Int} (h : Wm Z w x j m n nb fr bl a sv mv ss ms val) : x < w.heap.size ∧ m < w.heap.size ∧ (∀ k, sv.ownBlock = some k → k < w.heap.size) ∧ (∀ k, mv.ownBlock = some k → k < w.heap.size) := by
 obtain ⟨D, h1, _⟩ := h.mp
 exact ⟨h.blk.lt, h1.lt, fun k e => (World.ownsRow.lt h.st k e).2, fun k e => (World.ownsRow.lt h.mr k e).2⟩
theorem Wm.keepZ {Z Z' : Nat → Prop} {w w' : World} {x j m n nb fr bl : Nat} {a : Nat → Option Wr} {sv mv : Value} {ss : List Sp} {ms : List Mr} {val : Nat → List Int} (h : Wm Z w x j m n nb fr bl a sv mv ss ms val) (hk : ∀ k, Z k → k < w.heap.size → w'.heap[k]? = w.heap[k]?) (hz : ∀ k, Z k → k < w.heap.size → Z' k) : Wm Z' w' x j m n nb fr bl a sv mv ss ms val := by
 obtain ⟨l1, l2, l3, l4⟩ := h.lt
 obtain ⟨D, h1, h2⟩ := h.mp
 exact { blk := h.blk.keep (hk x h.zx l1), mp := ⟨D, mapW_keep h1 (hk m h.zm l2), h2⟩, st := owns_keep h.st (fun k e => hk k (h.zs k e) (l3 k e)), mr := owns_keep h.mr (fun k e => hk k (h.zk k e) (l4 k e)), dat := fun y r q => by { obtain ⟨q1, q2, q3, q4⟩ := h.dat y r q; exact ⟨q1.keep (hk _ q4 q1.lt), q2, q3, hz _ q4 q1.lt⟩ }, sn := h.sn, mks := h.mks, zx := hz x h.zx l1, zm := hz m h.zm l2, zs := fun k e => hz k (h.zs k e) (l3 k e), zk := fun k e => hz k (h.zk k e) (l4 k e) }
theorem Wm.but {Z Y : Nat → Prop} {w w' : World} {x j m n nb fr bl : Nat} {a : Nat → Option Wr} {sv mv : Value} {ss : List Sp} {ms : List Mr} {val : Nat → List Int} (h : Wm Z w x j m n nb fr bl a sv mv ss ms val) (hb : But Y w w') (hy : ∀ k, k < w.heap.size → Z k → ¬ Y k) : Wm Z w' x j m n nb fr bl a sv mv ss ms val := h.keepZ (fun k q hk => hb.block k hk (hy k hk q)) (fun _ q _ => q)
theorem Wm.cut {Z : Nat → Prop} {w : World} {x j m n nb fr bl : Nat} {a : Nat → Option Wr} {sv mv : Value} {ss : List Sp} {ms : List Mr} {val : Nat → List Int} (h : Wm Z w x j m n nb fr bl a sv mv ss ms val) : Wm (fun k => Z k ∧ k < w.heap.size) w x j m n nb fr bl a sv mv ss ms val := h.keepZ (fun _ _ _ => rfl) (fun _ q hk => ⟨q, hk⟩)
theorem Wm.wq {Z : Nat → Prop} {w : World} {x j m n nb fr bl : Nat} {a : Nat → Option Wr} {sv mv : Value} {ss : List Sp} {ms : List Mr} {val : Nat → List Int} (h : Wm Z w x j m n nb fr bl a sv mv ss ms val) : ∃ D, Wq Z w x j m n nb fr bl D a sv mv (LofA a val) := by
 obtain ⟨D, h1, h2⟩ := h.mp
 refine ⟨D, ⟨h.blk, h1, h2, fun y g cp k e => ?_, fun y e => by simp [LofA, e], h.zx, h.zm⟩⟩
 obtain ⟨q1, q2, q3, q4⟩ := h.dat y (g, cp, k) (.inl e)
 exact ⟨val g, by simp [LofA, e], q1, q2, q3, q4⟩
theorem Wm.lay {Z : Nat → Prop} {w : World} {x j m n nb fr bl : Nat} {a : Nat → Option Wr} {sv mv : Value} {ss : List Sp} {ms : List Mr} {val : Nat → List Int} (h : Wm Z w x j m n nb fr bl a sv mv ss ms val) (hn : n ≤ 1073741823) (hns : ss.length ≤ 1073741823) (y : Nat) (hy : y < nb) (hh : homeC nb fr bl (y : Int) = 0) (hnb : nb ≤ 524288) (ad : Addr) (cd : Nat) (zs : List Int) (hR : Rd w.heap.size w (some ad) 512 zs) :
  Calls Tryz.prog 95 #[.pointer (some ⟨x, 0, none⟩), .int .i64 (y : Int), .slice (some ad) 512 cd] w fun e w' => e = .returned (.tuple #[]) ∧ ∃ a' sv' ss' val' Z', Wm Z' w' x j m (n + 1) nb fr bl a' sv' mv ss' ms val' ∧ LofA a' val' = putL (LofA a val) y zs ∧ (∀ (i p : Nat) (b : Nat → Option Wr), ms[i]? = some (p, b) → LofA b val' = LofA b val) ∧ ss'.length ≤ ss.length + 1 ∧ (∀ k, Z' k → k < w'.heap.size) ∧ Gr Z Z' w ∧ But Z w w' := by
 obtain ⟨l1, l2, l3, l4⟩ := h.lt
 obtain ⟨D, hm, hA⟩ := h.mp
 obtain ⟨ma, mc, hmv, _⟩ := owns_slice h.mr
 have hx := h.blk
 rw [hmv] at hx
 obtain ⟨ba, bn, bc, mk, ok, step, ss', hhas, hat, hc, hss, hmks⟩ : ∃ ba bn bc mk ok step ss', Maps.has D (.int .i64 (y : Int)) = ok ∧ (∀ v ps, wrElem v = some (D.atKey (.int .i64 (y : Int)) .nil, ps) → v = .agg #[.slice ba bn bc, .int .i64 mk]) ∧ ((step = [] ∧ ms.length = 0) ∨ (step = [] ∧ ms.length ≠ 0 ∧ ok = true ∧ ¬ mk < (ms.length : Int)) ∨ (step = [.iface 207 (.int .i64 (y : Int))] ∧ ms.length ≠ 0 ∧ ok = false) ∨ (step = [.iface 209 (.agg #[.int .i64 (y : Int), .slice ba bn bc, .int .i64 mk])] ∧ ms.length ≠ 0 ∧ ok = true ∧ mk < (ms.length : Int))) ∧ (ss'.map stepV = ss.map stepV ++ step ∧ ss'.length = ss.length + step.length ∧ ∀ s ∈ ss', s.1 < nb) ∧ ∀ g cp, Mk (putX a y (g, cp, (ms.length : Int))) ss' ms := by
  cases ha : a y with
  | some r =>
   obtain ⟨g, cp, k⟩ := r
   have hle := h.mks.le y g cp k ha
   have hhas := (hA.hit y _ ha).1
   have hat : ∀ v ps, wrElem v = some (D.atKey (.int .i64 (y : Int)) .nil, ps) → v = .agg #[.slice (some ⟨g, 0, none⟩) 512 cp, .int .i64 k] := fun v ps hv => by
    rw [(hA.hit y _ ha).2] at hv
    exact wrElem_inv hv
   by_cases hz : ms = []
   ·exact ⟨_, _, _, _, true, [], ss, hhas, hat, .inl ⟨rfl, by simp [hz]⟩, ⟨by simp, by simp, h.sn⟩, fun g' cp' => h.mks.lay0 (.inl hz)⟩
   ·have hl : ms.length ≠ 0 := fun e => hz (List.length_eq_zero_iff.1 e)
    by_cases hk : k = (ms.length : Int)
    ·exact ⟨_, _, _, _, true, [], ss, hhas, hat, .inr (.inl ⟨rfl, hl, rfl, by omega⟩), ⟨by simp, by simp, h.sn⟩, fun g' cp' => h.mks.lay0 (.inr ⟨g, cp, hk ▸ ha⟩)⟩
    ·refine ⟨_, _, _, _, true, _, ss ++ [(y, a y)], hhas, hat, .inr (.inr (.inr ⟨rfl, hl, rfl, by omega⟩)), ⟨by rw [List.map_append, ha]; rfl, by simp, fun s hs => ?_⟩, fun g' cp' => h.mks.lay1 y g' cp'⟩
     simp at hs
     rcases hs with hs | hs
     ·exact h.sn s hs
     ·rw [hs]; exact hy
  | none =>
   have hhas : Maps.has D (.int .i64 (y : Int)) = false := hA.miss (y : Int) (fun z e => by
    have : z = y := by omega
    rw [this]; exact ha)
   have hat : ∀ v ps, wrElem v = some (D.atKey (.int .i64 (y : Int)) .nil, ps) → v = .agg #[.slice none 0 0, .int .i64 0] := fun v ps hv => by
    rw [Maps.atKey_of_not_has hhas] at hv
    exact wrElem_nil hv
   by_cases hz : ms = []
   ·exact ⟨_, _, _, _, false, [], ss, hhas, hat, .inl ⟨rfl, by simp [hz]⟩, ⟨by simp, by simp, h.sn⟩, fun g' cp' => h.mks.lay0 (.inl hz)⟩
   ·have hl : ms.length ≠ 0 := fun e => hz (List.length_eq_zero_iff.1 e)
    refine ⟨_, _, _, _, false, _, ss ++ [(y, a y)], hhas, hat, .inr (.inr (.inl ⟨rfl, hl, rfl⟩)), ⟨by rw [List.map_append, ha]; rfl, by simp, fun s hs => ?_⟩, fun g' cp' => h.mks.lay1 y g' cp'⟩
    simp at hs
    rcases hs with hs | hs
    ·exact h.sn s hs
    ·rw [hs]; exact hy
 have hisb := hR.2.1
 refine Calls.mono (lay_raw hx hm h.st hn hns y hy hnb ad cd zs hR hhas hat step hc) ?_
 rintro e w' ⟨rfl, g, cp, sv', q1, q2, q3, q4, q5, q6, q7⟩
 rw [← hmv] at q4
 have s7 := q7.size
 have hstl : step.length ≤ 1 := by
  rcases hc with ⟨e, _⟩ | ⟨e, _⟩ | ⟨e, _⟩ | ⟨e, _⟩ <;> rw [e] <;> simp
 have hgl : g < w'.heap.size := q2.lt
 have hsl : ∀ k, sv'.ownBlock = some k → k < w'.heap.size := fun k e => (World.ownsRow.lt q5 k e).2
 have hbz : ∀ k, k < w.heap.size → (k = m ∨ k = x ∨ sv.ownBlock = some k) → Z k := fun k _ e => by
  rcases e with e | e | e
  ·exact e ▸ h.zm
  ·exact e ▸ h.zx
  ·exact h.zs k e
 have hold : ∀ z r, Lies a ms z r → Own w' r.1 512 r.2.1 (val r.1) ∧ r.1 < w.heap.size ∧ r.1 ≠ g := fun z r hl => by
  obtain ⟨r1, _, _, _⟩ := h.dat z r hl
  have hlt := r1.lt
  refine ⟨r1.keep (q7.block _ hlt (fun e => ?_)), hlt, by omega⟩
  rcases e with e | e | e
  ·exact own_ne_map r1 hm e
  ·exact own_ne_x r1 h.blk e
  ·exact own_ne_row r1 h.st (by decide) e rfl
 refine ⟨rfl, putX a y (g, cp, (ms.length : Int)), sv', ss', fun b => if b = g then zs else val b, fun k => (Z k ∧ k < w.heap.size) ∨ (w.heap.size ≤ k ∧ k < w'.heap.size ∧ (k = g ∨ sv'.ownBlock = some k)), ?_, ?_, fun i p b e => ?_, by omega, fun k q => by rcases q with q | q <;> omega, fun k hk q => by
  rcases q with q | q
  ·exact q.1
  ·omega, q7.mono hbz⟩
 ·refine { blk := q4, mp := ⟨_, q3, hA.put y hy _⟩, st := ?_, mr := owns_keep h.mr (fun k e => q7.block k (l4 k e) (fun e2 => ?_)), dat := fun z r q => ?_, sn := hss.2.2, mks := hmks g cp, zx := .inl ⟨h.zx, l1⟩, zm := .inl ⟨h.zm, l2⟩, zs := fun k e => ?_, zk := fun k e => .inl ⟨h.zk k e, l4 k e⟩ }
  ·rw [hss.1, hss.2.1]
   exact q5
  ·rcases e2 with e2 | e2 | e2
   ·exact mapW_row hm h.mr e e2
   ·exact row_ne_x h.mr h.blk (by decide) e e2
   ·obtain ⟨c1, e1⟩ := row_cur h.mr e
    obtain ⟨c2, e3⟩ := row_cur h.st e2
    exact cells_ne e1 e3 (by decide) rfl
  ·by_cases hnew : z = y ∧ putX a y (g, cp, (ms.length : Int)) z = some r
   ·obtain ⟨rfl, e⟩ := hnew
    have e' : (g, cp, (ms.length : Int)) = r := by simpa [putX] using e
    subst e'
    exact ⟨by simpa using q2, by simpa using hisb, ⟨hy, hh⟩, .inr ⟨q1, hgl, .inl rfl⟩⟩
   ·have hl : Lies a ms z r := by
     rcases q with q | q
     ·have hzy : z ≠ y := fun e => hnew ⟨e, q⟩
      exact .inl (by simpa [putX, hzy] using q)
     ·exact .inr q
    obtain ⟨r1, r2, r3, r4⟩ := h.dat z r hl
    obtain ⟨t1, t2, t3⟩ := hold z r hl
    exact ⟨by simpa [t3] using t1, by simpa [t3] using r2, r3, .inl ⟨r4, t2⟩⟩
  ·rcases Nat.lt_or_ge k w.heap.size with e2 | e2
   ·refine .inl ⟨?_, e2⟩
    rcases q6 k e with e3 | e3
    ·exact h.zs k e3
    ·omega
   ·exact .inr ⟨e2, hsl k e, .inr e⟩
 ·funext z
  by_cases hz : z = y
  ·simp [LofA, putX, putL, hz]
  ·cases ha : a z with
   | none => simp [LofA, putX, putL, hz, ha]
   | some r =>
    have := (hold z r (.inl ha)).2.2
    simp [LofA, putX, putL, hz, ha, this]
 ·funext z
  cases hb : b z with
  | none => simp [LofA, hb]
  | some r =>
   have := (hold z r (.inr ⟨i, p, b, e, hb⟩)).2.2
   simp [LofA, hb, this]
open Go.RowKit Go.Maps Go.Sort Go.Shelf
def keysB_ren : Go.Shelf.Ren := ⟨fun | 7 => 75 | 10 => 132 | n => n, fun | 23 => 132 | 26 => 3 | 3 => 142 | 28 => 139 | 0 => 0 | 27 => 138 | 33 => 90 | 4 => 4 | n => n, fun | n => n⟩
theorem keysB : Go.Proofs.SlLaysZI.n7 Tryz.prog keysB_ren := {
 mixed := by kernel_rfl
 f7 := ⟨Tryz.f75.name, by decide, Tryz.func75.trans (congrArg some (by kernel_rfl))⟩
 f10 := ⟨Tryz.f132.name, by decide, Tryz.func132.trans (congrArg some (by kernel_rfl))⟩
 t0 := Tryz.underlying0
 a0 := Tryz.isAgg0
 z0 := Tryz.sizeOf0
 v0 := Tryz.zeroValue0
 t4 := Tryz.underlying4
 a4 := Tryz.isAgg4
 z4 := Tryz.sizeOf4
 v4 := Tryz.zeroValue4
 t23 := Tryz.underlying132
 a23 := Tryz.isAgg132
 z23 := Tryz.sizeOf132
 v23 := Tryz.zeroValue132
 t26 := Tryz.underlying3
 a26 := Tryz.isAgg3
 z26 := Tryz.sizeOf3
 v26 := Tryz.zeroValue3
 t27 := Tryz.underlying138
 a27 := Tryz.isAgg138
 z27 := Tryz.sizeOf138
 v27 := Tryz.zeroValue138
 t28 := Tryz.underlying139
 a28 := Tryz.isAgg139
 z28 := Tryz.sizeOf139
 v28 := Tryz.zeroValue139
 t33 := Tryz.underlying90
 a33 := Tryz.isAgg90
 z33 := Tryz.sizeOf90
 v33 := Tryz.zeroValue90 }
theorem keysB_any (mb : Option Nat) (w : World) : Calls Tryz.prog 75 #[.map mb] w fun e w' => e = .returned (.func (.func 132) #[] #[.pointer (some ⟨w.heap.size, 0, none⟩)]) ∧ w' = w.alloc (.cells #[.map mb] 132) :=
 (callsIn_wide (n := 6)).1 (AnyZI.keys_in keysB Fence.wide 6 trivial rfl mb w)
theorem sortedB_any {H : Type} (b nn : Nat) (D0 : DataW H) (R : Value → Option (DataW H × List MemPlace)) (w : World) (hown : w.ownsMap Tryz.prog 3 R b nn D0) (hmax : Maps.size D0 ≤ maxLen) (hbytes : Maps.size D0 * 8 ≤ 140737488355328) :
  Calls Tryz.prog 74 #[.func (.func 132) #[] #[.pointer (some ⟨w.heap.size, 0, none⟩)]] (w.alloc (.cells #[.map (some b)] 132)) fun e w' => ∃ (v : Value) (ss : List Int), e = .returned v ∧ ss.Perm (intKeys D0) ∧
   w'.ownsRow w.heap.size 3 1 v ss.length ((ss.mergeSort (fun x y => decide (x ≤ y))).map encZ) ∧ (v = .slice none 0 0 ↔ ss = []) ∧ Below w.heap.size w w' := by
 have hbl := hown.lt
 have hseq : SeqGives Fence.wide 2 Tryz.prog 132 #[.pointer (some ⟨w.heap.size, 0, none⟩)] encZ (fun ss => ss.Perm (intKeys D0)) (Maps.size D0) (w.alloc (.cells #[.map (some b)] 132)) :=
  AnyZI.keys_gives (ρ := keysB_ren) { keysB with } Fence.wide _ trivial rfl (by omega) w.heap.size b nn D0 _ (by simp) (by simp) (by
   obtain ⟨es, clock, hb, Ft, hs, hD⟩ := hown
   exact ⟨es, clock, (Below.heap_alloc _ _ b hbl).trans hb, Ft, hs, hD⟩)
 have cS := AnyZI.sorted_in sortedA Fence.wide 5 trivial trivial trivial trivial rfl (by omega) (sortsA _) (enters_of Tryz.func131 (by kernel_rfl) rfl) 132 #[.pointer (some ⟨w.heap.size, 0, none⟩)] trivial (enters_of Tryz.func132 (by kernel_rfl) rfl) _ _ hmax hbytes _ hseq
 change CallsIn _ _ Tryz.prog 74 _ _ _ at cS
 refine Calls.mono ((callsIn_wide).1 cS) ?_
 rintro e w' ⟨v, ss, rfl, hS, hrow, hnil, hb⟩
 exact ⟨v, ss, rfl, hS, ownsRow_base_a hrow (by simp), hnil, ((Below.refl _ w).alloc (Nat.le_refl _) _).trans (hb.mono (by simp))⟩
open Go.RowKit
def bytesZ (ps : List (Nat × List Int)) : List Int := ps.flatMap fun p => packZ [(3, (p.1 : Int))] ++ p.2
theorem bytesZ_snoc (ps : List (Nat × List Int)) (p : Nat × List Int) : bytesZ (ps ++ [p]) = bytesZ ps ++ packZ [(3, (p.1 : Int))] ++ p.2 := by simp [bytesZ]
theorem isB_bytesZ {ps : List (Nat × List Int)} (h : ∀ p ∈ ps, Pl.isB p.2) : Pl.isB (bytesZ ps) := by
 intro z hz
 obtain ⟨p, hp, hz⟩ := List.mem_flatMap.1 hz
 rcases List.mem_append.1 hz with hz | hz
 ·exact isB_packZ _ z hz
 ·exact h p hp z hz
theorem length_bytesZ {ps : List (Nat × List Int)} (h : ∀ p ∈ ps, p.2.length = 512) : (bytesZ ps).length = 515 * ps.length := by
 induction ps with
 | nil => rfl
 | cons p ps ih =>
  have e : bytesZ (p :: ps) = packZ [(3, (p.1 : Int))] ++ p.2 ++ bytesZ ps := by simp [bytesZ]
  rw [e, List.length_append, List.length_append, ih (fun q hq => h q (by simp [hq])), h p (by simp)]
  simp [packZ, Pl.dig]
  omega
theorem grow_rd {w : World} {B n : Nat} {a : Option Addr} {c : Nat} {zs : List Int} (ty : TypeId) (ho : w.ownsRow B 5 1 (.slice a n c) n (zs.map (Value.int .u8))) {b off m cp : Nat} {body : List Int} (hl : body.length = m) (hc : ∀ t, t < m → w.cell? ⟨b, off + t, none⟩ = some (.int .u8 (body.getD t 0))) (hm : m ≤ 1048576) (hn : n ≤ 1073741823) (hw : B ≤ w.heap.size) :
  ∃ a' c' w', (Builtin.append_ #[65, 65] ty #[.slice a n c, .slice (some ⟨b, off, none⟩) m cp]).run Tryz.prog w = .ok (.slice a' (n + m) c') w' ∧ w'.ownsRow B 5 1 (.slice a' (n + m) c') (n + m) ((zs ++ body).map (Value.int .u8)) ∧ But (fun k => B ≤ k) w w' ∧ w.grownBy w' (Value.slice a n c).ownBlock := by
 obtain ⟨i0, hi, hz0, hz1, hz2⟩ := info_parts info5
 obtain ⟨v', w', hr, h2, h3, _, _⟩ := run_append_own_at (P := Tryz.prog) w B 65 ty 5 i0 (.int .u8 0) 1 1 Tryz.underlying65 hi hz0 hz1 hz2 rfl (by decide) (.slice a n c) n (zs.map (Value.int .u8)) ho ⟨b, off, none⟩ m cp (body.map (Value.int .u8)) (by simp [hl]) (fun j u hu => by
   rw [Addr.add_lit]
   have hj : j < body.length := by have := (List.getElem?_eq_some_iff.1 hu).1; simpa using this
   rw [hc j (by omega)]
   simp [hj] at hu
   rw [← hu]
   simp [hj]) (fun u hu => by obtain ⟨z, _, rfl⟩ := List.mem_map.1 hu; rfl) (by unfold maxLen; omega) (by omega) hw
 obtain ⟨a', c', rfl, _⟩ := owns_slice h2
 refine ⟨a', c', w', hr, by rw [List.map_append]; exact h2, (But.refl _ w).of_grown h3 (fun x e hx => ?_), h3⟩
 exact (World.ownsRow.lt ho x e).1
set_option maxRecDepth 100000 in
set_option maxHeartbeats 1000000 in
theorem bytesOf_any (X : Nat → Prop) (w : World) (a0 : Option Addr) (cp : Nat) (ps : List Pm) (hR : RdP X w a0 ps) (hp : ∀ p ∈ ps, 0 ≤ p.at_ ∧ p.at_ < 524288 ∧ p.data.length = 512) (hl : ps.length ≤ 524288) :
  Calls Tryz.prog 138 #[.slice a0 ps.length cp] w fun e w' => ∃ a c, e = .returned (.slice a (515 * ps.length) c) ∧ w'.ownsRow w.heap.size 5 1 (.slice a (515 * ps.length) c) (515 * ps.length) ((bytesZ (ps.map Pm.put)).map (Value.int .u8)) ∧ Below w.heap.size w w' := by
 obtain ⟨i0, hi0, hz0, hz1, hz2⟩ := info_parts info5
 have HR := hid hR
 have HP := hid hp
 clear hR hp
 generalize hN : ps.length = N at *
 have hmul : IntKind.i64.wrap ((N : Int) * 515) = ((515 * N : Nat) : Int) := by rw [IntKind.wrap_i64]; omega
 go_enter Tryz.func138, Tryz.ntmps138
 go_wp2_with (at_make; refine wpList_make_own _ rfl _ _ 65 rfl w.heap.size 5 i0 (.int .u8 0) 1 Tryz.underlying65 hi0 hz0 hz1 _ _ _ (515 * N) rfl rfl (by rfl) (by rw [hz2]; omega) (by unfold maxLen; omega) (Nat.le_refl _) ?_; intro w1 hrow1 hgr1)
 have HB0 : Hid (Below w.heap.size w w1) := ((But.refl (fun _ => False) w).of_grown hgr1 (fun x e _ => by cases e)).below (Nat.le_refl _) (fun _ _ q => q)
 have HR0 := hid hrow1
 clear hrow1 hgr1 hmul
 go_loopw [3, 12] (fun dv iv wr => ∃ (q : Nat) (a : Option Addr) (c : Nat), q ≤ N ∧ iv = .int .i64 (q : Int) ∧ dv = .slice a (515 * q) c ∧ wr.ownsRow w.heap.size 5 1 (.slice a (515 * q) c) (515 * q) ((bytesZ ((ps.take q).map Pm.put)).map (Value.int .u8)) ∧ Below w.heap.size w wr) (fun _ iv _ => N - (intOf iv).toNat)
 case atStart => exact ⟨0, _, _, Nat.zero_le _, rfl, rfl, HR0.out, HB0.out⟩
 case round =>
  clear HR0 HB0
  obtain ⟨q, a, c, hq, rfl, rfl, hrow, hbt⟩ := hrel
  by_cases hqn : q < N
  ·have hqn' : (q : Int) < (N : Int) := by omega
   obtain ⟨pp, hpq⟩ : ∃ pp, ps[q]? = some pp := ⟨_, List.getElem?_eq_getElem (by omega)⟩
   obtain ⟨p0, p1, p2⟩ := HP.out pp (List.mem_of_getElem? hpq)
   obtain ⟨bk, off, ha0, hbk, hbZ, hcell⟩ : ∃ b off, a0 = some ⟨b, off, none⟩ ∧ b < w.heap.size ∧ ¬ X b ∧ ∀ (t : Nat) (p : Pm), ps[t]? = some p → w.cell? ⟨b, off + t * 2, none⟩ = some (.int .i64 p.at_) ∧ w.cell? ⟨b, off + t * 2 + 1, none⟩ = some (.slice p.ad p.data.length p.cap) := by
    rcases HR.out.2 with e | e
    ·rw [e] at hpq; cases hpq
    ·exact e
   obtain ⟨c1, c2⟩ := hcell q pp hpq
   obtain ⟨b3, o3, had, hb3, hcs⟩ : ∃ b o, pp.ad = some ⟨b, o, none⟩ ∧ b < w.heap.size ∧ ∀ t, t < 512 → w.cell? ⟨b, o + t, none⟩ = some (.int .u8 (pp.data.getD t 0)) := by
    rcases (HR.out.1 pp (List.mem_of_getElem? hpq)).2.2 with e | ⟨b, o, e, h1, _, h2⟩
    ·omega
    ·exact ⟨b, o, e, h1, by rw [p2] at h2; exact h2⟩
   rw [had, p2] at c2
   replace c1 := (hbt.cell (p := ⟨bk, off + q * 2, none⟩) hbk).trans c1
   replace c2 := (hbt.cell (p := ⟨bk, off + q * 2 + 1, none⟩) hbk).trans c2
   obtain ⟨x, hx⟩ : ∃ x : Nat, pp.at_ = (x : Int) := ⟨pp.at_.toNat, by omega⟩
   rw [hx] at c1
   obtain ⟨w2, hw2⟩ : ∃ w2, w2 = wr.alloc (.cells #[.int .i64 (x : Int), .slice (some ⟨b3, o3, none⟩) 512 pp.cap] 144) := ⟨_, rfl⟩
   have b2 : Below wr.heap.size wr w2 := by rw [hw2]; exact (Below.refl _ _).alloc (Nat.le_refl _) _
   have z2 : w2.heap.size = wr.heap.size + 1 := by rw [hw2]; simp
   have n0 : w2.cell? ⟨wr.heap.size, 0, none⟩ = some (.int .i64 (x : Int)) := by rw [hw2]; exact cell_new rfl 0 _ rfl
   have n1 : w2.cell? ⟨wr.heap.size, 1, none⟩ = some (.slice (some ⟨b3, o3, none⟩) 512 pp.cap) := by rw [hw2]; exact cell_new rfl 1 _ rfl
   have hsw := hbt.size
   have hbw2 : Below w.heap.size w w2 := hbt.trans (b2.mono hsw)
   have hrow2 := owns_below hrow b2
   obtain ⟨w3, hw3⟩ : ∃ w3, w3 = w2.alloc (.cells #[.int .i64 3, .int .i64 (x : Int)] 204) := ⟨_, rfl⟩
   have b3' : Below w2.heap.size w2 w3 := by rw [hw3]; exact (Below.refl _ _).alloc (Nat.le_refl _) _
   have z3 : w3.heap.size = w2.heap.size + 1 := by rw [hw3]; simp
   have HPk := hid (packed_any (some ⟨w2.heap.size, 0, none⟩) 1 1 [(3, (x : Int))] w3 (by omega) ⟨rfl, fun f hf => by simp at hf; subst hf; simp; omega, .inr ⟨w2.heap.size, 0, rfl, by omega, fun t ht => by
    rw [hw3]
    rcases t with _ | t
    ·exact ⟨cell_new rfl 0 _ rfl, cell_new rfl 1 _ rfl⟩
    ·omega⟩⟩ (fun f hf => by simp at hf; subst hf; unfold chk wfB; simp; omega))
   have KK := hid (And.intro hrow2 (And.intro hbw2 (And.intro b3' (And.intro hcs (And.intro hpq (And.intro hx (And.intro p2 (And.intro hb3 z2))))))))
   have hlp : (packZ [((3 : Int), (x : Int))]).length = 3 := by simp [packZ, Pl.dig]
   rw [hlp, z2] at HPk
   have hgl : ∀ g, (Value.slice a (515 * q) c).ownBlock = some g → g < wr.heap.size := fun g e => (World.ownsRow.lt hrow g e).2
   have HGL := hid hgl
   clear hgl
   subst ha0
   clear hcell hrow hbt hbZ had hcs hpq hx p0 p1 p2 b2 hbw2 hrow2 b3' hlp hsw hb3 z2 z3
   go_wp2_with fail
   rw [← hw2, ← hw3]
   refine Calls.mono HPk.out ?_
   rintro e w4 ⟨g4, rfl, hg4, hb4, b4⟩
   obtain ⟨hrow2, hbw2, b3', hcs, hpq, hx, p2, hb3, z2⟩ := KK.out
   have b24 : Below w2.heap.size w2 w4 := b3'.trans (b4.mono b3'.size)
   have hrow4 := owns_below hrow2 b24
   have hs24 := b24.size
   have hsw2 := hbw2.size
   obtain ⟨a5, c5, w5, hrun5, hrow5, b5, gr5⟩ := grow_rd (b := g4) (off := 0) (m := 3) (cp := 3) 40 hrow4 (body := packZ [(3, (x : Int))]) (by simp [packZ, Pl.dig]) (fun t ht => by rw [Nat.zero_add]; exact hb4.cell t (by simp [packZ, Pl.dig]; omega)) (by omega) (by omega) (by omega)
   have m1 : w5.cell? ⟨wr.heap.size, 1, none⟩ = some (.slice (some ⟨b3, o3, none⟩) 512 pp.cap) := (World.cell?_of_block (gr5.block wr.heap.size (by omega) (fun e => by have := HGL.out _ e.symm; omega))).trans ((b24.cell (p := ⟨wr.heap.size, 1, none⟩) (by show wr.heap.size < _; omega)).trans n1)
   have bw5 : Below w.heap.size w w5 := (((But.of_below hbw2 (X := fun k => w.heap.size ≤ k)).trans (But.of_below b24)).trans b5).below (Nat.le_refl _) (fun k hk r => by omega)
   obtain ⟨a6, c6, w6, hrun6, hrow6, b6, _⟩ := grow_rd (b := b3) (off := o3) (m := 512) (cp := pp.cap) 40 hrow5 (body := pp.data) p2 (fun t ht => (bw5.cell (p := ⟨b3, o3 + t, none⟩) hb3).trans (hcs t ht)) (by omega) (by omega) bw5.size
   have FIN : Hid (w6.ownsRow w.heap.size 5 1 (.slice a6 (515 * (q + 1)) c6) (515 * (q + 1)) ((bytesZ ((ps.take (q + 1)).map Pm.put)).map (Value.int .u8)) ∧ Below w.heap.size w w6) := by
    refine ⟨?_, ((But.of_below bw5 (X := fun k => w.heap.size ≤ k)).trans b6).below (Nat.le_refl _) (fun k hk r => by omega)⟩
    rw [List.take_add_one, hpq, List.map_append]
    show w6.ownsRow _ _ _ _ _ ((bytesZ ((ps.take q).map Pm.put ++ [pp.put])).map _)
    rw [bytesZ_snoc, show (515 * (q + 1)) = 515 * q + 3 + 512 by omega]
    have : pp.put = (x, pp.data) := by unfold Pm.put; rw [hx]; rfl
    rw [this]
    exact hrow6
   have e5 : 515 * q + 3 + 512 = 515 * (q + 1) := by omega
   rw [e5] at hrun6
   clear hrow2 hbw2 b3' hcs hpq hx p2 hb3 z2 b24 hrow4 hs24 hsw2 hrow5 b5 gr5 bw5 hrow6 b6 hg4 hb4 b4 KK HPk HGL hw2 hw3 n0 n1 c1 c2
   go_wp2_with (at_builtin; refine Lib.wpList_append_run _ rfl _ _ _ _ rfl _ _ rfl rfl _ _ (by first | exact hrun5 | exact hrun6) ?_)
   refine ⟨⟨q + 1, a6, c6, by omega, by go_num, rfl, FIN.out.1, FIN.out.2⟩, ?_⟩
   simp [intOf]
   omega
  ·have hqn' : ¬ (q : Int) < (N : Int) := by omega
   have hqe : ps.take q = ps := List.take_of_length_le (by omega)
   have hqe2 : q = N := by omega
   subst hqe2
   rw [hqe] at hrow
   have FIN := hid (And.intro hrow hbt)
   clear hrow hbt hqe
   go_wp2
   go_ret
   exact ⟨a, c, rfl, FIN.out.1, FIN.out.2⟩
open Go.RowKit
structure Rm where
 T : Nat
 ad : Option Addr
 cap : Nat
 body : List Int
def Rm.val (r : Rm) : Value := .iface r.T (.slice r.ad r.body.length r.cap)
def Rm.out (r : Rm) : Int × List Int := (if r.T = 197 then 3 else 4, r.body)
def pieceN (n : Nat) : Nat := (n - 1) / 497
def recsZ (zs : List Int) : List (Int × List Int) := ((List.range (pieceN zs.length)).map fun i => ((3 : Int), (zs.drop (497 * i)).take 497)) ++ [(4, zs.drop (497 * pieceN zs.length))]
def pieceM (zs : List Int) (b cp i : Nat) : Rm := ⟨197, some ⟨b, 497 * i, none⟩, cp - 497 * i, (zs.drop (497 * i)).take 497⟩
theorem info139 : (Tryz.prog.info? 194).map (fun i => (i.zero, i.size, i.bytes)) = some (some .nilIface, 1, 16) := by kernel_rfl
theorem newsI1 (w : World) (v : Value) (t : TypeId) : ∀ j y, [v][j]? = some y → (w.alloc (.cells #[v] t)).cell? ((⟨w.heap.size, 0, none⟩ : Addr).add j) = some y := by
 intro j y hj
 rcases j with _ | j
 ·cases hj
  rw [Addr.add_lit]
  exact cell_new rfl 0 _ rfl
 ·simp at hj
set_option maxRecDepth 100000 in
set_option maxHeartbeats 1000000 in
theorem recordsOf_any (X : Nat → Prop) (w : World) (a0 : Option Addr) (cp : Nat) (ps : List Pm) (hR : RdP X w a0 ps) (hp : ∀ p ∈ ps, 0 ≤ p.at_ ∧ p.at_ < 524288 ∧ p.data.length = 512 ∧ Pl.isB p.data) (hl : ps.length ≤ 524288) :
  Calls Tryz.prog 82 #[.slice a0 ps.length cp] w fun e w' => ∃ (rv : Option Addr) (cR : Nat) (rs : List Rm), e = .returned (.slice rv rs.length cR) ∧ rs.map Rm.out = recsZ (bytesZ (ps.map Pm.put)) ∧ w'.ownsRow w.heap.size 194 1 (.slice rv rs.length cR) rs.length (rs.map Rm.val) ∧ (∀ r ∈ rs, (r.T = 197 ∨ r.T = 198) ∧ r.body.length ≤ 497 ∧ RdN (fun k => k < w.heap.size) w' r.ad r.body.length r.body) ∧ Below w.heap.size w w' := by
 obtain ⟨i1, hi1, hz1, hs1, hb1⟩ := info_parts info139
 have HB := hid (bytesOf_any X w a0 cp ps hR (fun p q => ⟨(hp p q).1, (hp p q).2.1, (hp p q).2.2.1⟩) hl)
 have hzl : (bytesZ (ps.map Pm.put)).length = 515 * ps.length := by
  rw [length_bytesZ, List.length_map]
  intro p q
  obtain ⟨r, hr, rfl⟩ := List.mem_map.1 q
  exact (hp r hr).2.2.1
 have hzb : Pl.isB (bytesZ (ps.map Pm.put)) := isB_bytesZ (fun p q => by
  obtain ⟨r, hr, rfl⟩ := List.mem_map.1 q
  exact (hp r hr).2.2.2)
 generalize bytesZ (ps.map Pm.put) = zs at *
 clear hR hp
 have HZB := hid hzb
 clear hzb
 generalize hN : ps.length = N at *
 go_enter Tryz.func82, Tryz.ntmps82
 go_wp2_with fail
 refine Calls.mono HB.out ?_
 rintro e w1 ⟨a, c, rfl, hrow, b1⟩
 obtain ⟨n, hn⟩ : ∃ n, n = 515 * N := ⟨_, rfl⟩
 rw [← hn] at hrow hzl
 rw [← hn]
 obtain ⟨hrd, hcap⟩ := rdn_of_owns (X := fun k => k < w.heap.size) hrow HZB.out (fun k hk q => by omega)
 have hn9 : n ≤ 524288 * 515 := by omega
 have HRD := hid hrd
 have HB1 := hid b1
 have R0 : Hid ((w1.alloc (.cells #[] 194)).ownsRow w1.heap.size 194 1 (.slice (some ⟨w1.heap.size, 0, none⟩) 0 0) 0 []) := World.ownsRow_lit w1 #[] 0 (Nat.le_refl _) (by decide) rfl
 have B0 : Hid (Below w1.heap.size w1 (w1.alloc (.cells #[] 194))) := (Below.refl w1.heap.size w1).alloc (Nat.le_refl _) _
 have HFM : Hid (n = 0 ∨ ∃ g, a = some ⟨g, 0, none⟩) := by
  rcases hrow.2 with ⟨_, q⟩ | ⟨g, cap, cur, q, _⟩
  ·exact .inl q
  ·simp at q; exact .inr ⟨g, q.1⟩
 clear hrow hrd b1 HB hn
 obtain ⟨g, hg⟩ : ∃ g, 0 < n → a = some ⟨g, 0, none⟩ := by
  rcases HFM.out with q | ⟨g, q⟩
  ·exact ⟨0, fun r => by omega⟩
  ·exact ⟨g, fun _ => q⟩
 have HG := hid hg
 clear hg HFM
 go_wp2_with fail
 go_loopw [3, 4] (fun dv rv wr => ∃ (i : Nat) (av : Option Addr) (gR cR : Nat), 497 * i ≤ n ∧ (0 < n → 497 * i < n) ∧ dv = .slice av (n - 497 * i) (c - 497 * i) ∧ (0 < n → av = some ⟨g, 497 * i, none⟩) ∧ rv = .slice (some ⟨gR, 0, none⟩) i cR ∧ wr.ownsRow w1.heap.size 194 1 (.slice (some ⟨gR, 0, none⟩) i cR) i (((List.range i).map (pieceM zs g c)).map Rm.val) ∧ Below w1.heap.size w1 wr) (fun dv _ _ => lenV dv)
 case atStart => exact ⟨0, a, _, _, by omega, fun q => by omega, by simp, fun q => by rw [HG.out q], rfl, R0.out, B0.out⟩
 case round =>
  clear R0 B0
  obtain ⟨i, av, gR, cR, hi, hi2, rfl, hav, rfl, hrow, hbt⟩ := hrel
  obtain ⟨r, hr⟩ : ∃ r, r = n - 497 * i := ⟨_, rfl⟩
  obtain ⟨r', hr'⟩ : ∃ r', r' = c - 497 * i := ⟨_, rfl⟩
  rw [← hr, ← hr']
  have hsw := hbt.size
  have HQ := hid (And.intro hr (And.intro hr' (And.intro hav hi2)))
  have hrr : r ≤ r' := by omega
  have hi7 : i ≤ 1073741823 := by omega
  clear hav hi2
  by_cases h4 : 497 < r
  ·have hav2 := HQ.out.2.2.1 (by omega)
   subst hav2
   have HRow := hid (owns_below hrow ((Below.refl wr.heap.size wr).alloc (Nat.le_refl _) (.cells #[.iface 197 (.slice (some ⟨g, 497 * i, none⟩) 497 r')] 194)))
   have HBt := hid hbt
   have x0 : (497 : Int) < (r : Int) := by omega
   have x1 : (497 : Int) ≤ (r : Int) := by omega
   have x2 : (497 : Int) ≤ (r' : Int) := by omega
   have x3 : (r : Int) ≤ (r' : Int) := by omega
   have y1 : ¬ r' = 497 := by omega
   clear hrow hbt hr hr' hi
   go_wp2_with (at_builtin; refine wpList_append_lies _ rfl _ _ _ rfl w1.heap.size 194 i1 .nilIface 1 16 Tryz.underlying153 hi1 hz1 hs1 hb1 rfl (by decide) _ i _ rfl (by exact HRow.out) ⟨wr.heap.size, 0, none⟩ 1 1 [.iface 197 (.slice (some ⟨g, 497 * i, none⟩) 497 r')] rfl rfl (by exact newsI1 wr _ _) (by intro u hu; simp at hu; subst hu; rfl) (by decide) (by unfold maxLen; omega) (by omega) (by simp; omega) (wr.heap.size + 1) (by simp) ?_; intro gR2 cR2 w3 ho3 hg3 hl3 _; have HO3 := hid ho3; have HG3 := hid hg3; clear ho3 hg3 hl3)
   obtain ⟨hr, hr', _, _⟩ := HQ.out
   have hpl : ((zs.drop (497 * i)).take 497).length = 497 := by rw [List.length_take, List.length_drop]; omega
   have hval : ((List.range (i + 1)).map (pieceM zs g c)).map Rm.val = ((List.range i).map (pieceM zs g c)).map Rm.val ++ [.iface 197 (.slice (some ⟨g, 497 * i, none⟩) 497 r')] := by
    rw [List.range_succ, List.map_append, List.map_append]
    simp only [List.map_cons, List.map_nil, pieceM, Rm.val, hpl]
    rw [hr']
   refine ⟨⟨i + 1, some ⟨g, 497 * i + 497, none⟩, gR2, cR2, by omega, fun _ => by omega, by rw [show n - 497 * (i + 1) = r - 497 by omega, show c - 497 * (i + 1) = r' - 497 by omega], fun _ => by rw [show 497 * (i + 1) = 497 * i + 497 by omega], rfl, by rw [hval]; exact HO3.out, ?_⟩, by simp [lenV]; omega⟩
   exact ((((But.of_below HBt.out (X := fun k => w1.heap.size ≤ k)).alloc (.cells #[.iface 197 (.slice (some ⟨g, 497 * i, none⟩) 497 r')] 194)).of_grown HG3.out (fun x e _ => (World.ownsRow.lt HRow.out x e).1)).below (Nat.le_refl _) (fun k hk q => by omega))
  ·have hst : i = pieceN n := by
    unfold pieceN
    have := HQ.out.2.2.2
    by_cases q : n = 0
    ·subst q; omega
    ·have := this (by omega)
     omega
   have HRow := hid (owns_below hrow ((Below.refl wr.heap.size wr).alloc (Nat.le_refl _) (.cells #[.iface 198 (.slice av r r')] 194)))
   have HBt := hid hbt
   have x0 : ¬ (497 : Int) < (r : Int) := by omega
   have HST := hid (And.intro hst (And.intro hi h4))
   clear hrow hbt hr hr' hi hst
   go_wp2_with (at_builtin; refine wpList_append_lies _ rfl _ _ _ rfl w1.heap.size 194 i1 .nilIface 1 16 Tryz.underlying153 hi1 hz1 hs1 hb1 rfl (by decide) _ i _ rfl (by exact HRow.out) ⟨wr.heap.size, 0, none⟩ 1 1 [.iface 198 (.slice av r r')] rfl rfl (by exact newsI1 wr _ _) (by intro u hu; simp at hu; subst hu; rfl) (by decide) (by unfold maxLen; omega) (by omega) (by simp; omega) (wr.heap.size + 1) (by simp) ?_; intro gR2 cR2 w3 ho3 hg3 hl3 _; have HO3 := hid ho3; have HG3 := hid hg3; clear ho3 hg3 hl3)
   go_ret
   obtain ⟨hr, hr', hav, _⟩ := HQ.out
   obtain ⟨hst, hi, _⟩ := HST.out
   have bw3 : Below w1.heap.size w1 w3 := ((((But.of_below HBt.out (X := fun k => w1.heap.size ≤ k)).alloc (.cells #[.iface 198 (.slice av r r')] 194)).of_grown HG3.out (fun x e _ => (World.ownsRow.lt HRow.out x e).1)).below (Nat.le_refl _) (fun k hk q => by omega))
   have hdl : (zs.drop (497 * i)).length = r := by rw [List.length_drop]; omega
   have hrdn : ∀ o k, o + k ≤ n → 0 < n → RdN (fun k => k < w.heap.size) w3 (some ⟨g, o, none⟩) k ((zs.drop o).take k) := fun o k hk hn0 => by
    have q := HRD.out
    rw [HG.out hn0] at q
    have q2 := rdn_part q o k hk hn0
    rw [Nat.zero_add] at q2
    obtain ⟨s1, s2, s3⟩ := q2
    refine ⟨s1, s2, ?_⟩
    rcases s3 with s3 | ⟨b, off, s4, s5, s6, s7⟩
    ·exact .inl s3
    ·exact .inr ⟨b, off, s4, Nat.lt_of_lt_of_le s5 bw3.size, s6, fun t ht => (bw3.cell (p := ⟨b, off + t, none⟩) s5).trans (s7 t ht)⟩
   refine ⟨some ⟨gR2, 0, none⟩, cR2, (List.range i).map (pieceM zs g c) ++ [⟨198, av, r', zs.drop (497 * i)⟩], by simp, ?_, ?_, fun x hx => ?_, HB1.out.trans (bw3.mono HB1.out.size)⟩
   ·unfold recsZ
    rw [hzl, ← hst, List.map_append, List.map_map]
    rfl
   ·have hv : ((List.range i).map (pieceM zs g c) ++ [(⟨198, av, r', zs.drop (497 * i)⟩ : Rm)]).map Rm.val = ((List.range i).map (pieceM zs g c)).map Rm.val ++ [.iface 198 (.slice av r r')] := by
     rw [List.map_append]
     simp only [List.map_cons, List.map_nil, Rm.val, hdl]
    rw [hv, show ((List.range i).map (pieceM zs g c) ++ [(⟨198, av, r', zs.drop (497 * i)⟩ : Rm)]).length = i + 1 by simp]
    exact ownsRow_base_a HO3.out HB1.out.size
   ·rcases List.mem_append.1 hx with hx | hx
    ·obtain ⟨t, ht, rfl⟩ := List.mem_map.1 hx
     rw [List.mem_range] at ht
     have hpl : ((zs.drop (497 * t)).take 497).length = 497 := by rw [List.length_take, List.length_drop]; omega
     refine ⟨.inl rfl, by show ((zs.drop (497 * t)).take 497).length ≤ 497; omega, ?_⟩
     show RdN _ _ (some ⟨g, 497 * t, none⟩) ((zs.drop (497 * t)).take 497).length _
     rw [hpl]
     exact hrdn (497 * t) 497 (by omega) (by omega)
    ·simp at hx
     subst hx
     refine ⟨.inr rfl, by show (zs.drop (497 * i)).length ≤ 497; omega, ?_⟩
     show RdN _ _ av (zs.drop (497 * i)).length (zs.drop (497 * i))
     rw [hdl]
     by_cases hn0 : 0 < n
     ·rw [hav hn0]
      have := hrdn (497 * i) r (by omega) hn0
      rwa [List.take_of_length_le (by omega)] at this
     ·exact ⟨hdl, Pl.isB_drop HZB.out _, .inl (by omega)⟩
end Go.Proofs.YtlefjidbpjkhlaaGreat
