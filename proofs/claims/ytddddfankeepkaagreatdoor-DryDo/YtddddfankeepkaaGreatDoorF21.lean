import Derived.Test.YtddddfankeepkaaGreatDoorF20
import Derived.Test.YtddddfankeepkaaGreatDoorF10
import Derived.Laws.EntriesVeiled
namespace Go.Proofs.YtddddfankeepkaaGreatDoor
open Go.RowKit
def tkE (x : VW) (o : OW) (dn : Nat) : Int := if fmE o dn = 0 then firstE (lksE o.k.toNat x o (plcF x.vs o.nm 0) (plcF x.vs o.ot 0)) else fmE o dn
def tkX (x : VW) (o : OW) : VW := doX o.k.toNat x o (plcF x.vs o.nm 0) (plcF x.vs o.ot 0)
def TkQ (B : Nat) (w : World) (D : Nat) (x : VW) (o : OW) (dn : Nat) (e : Ending) (w' : World) : Prop := e = .returned (.int .i64 (tkE x o dn)) ∧ BelK B w w' ∧ (tkE x o dn = 0 → ∃ u us o' dv pn po, DrV B w' D (tkX x o) u us o' dv pn po)
theorem look_run (f : Nat) (hf : isLook f) : ∀ (gs : Array Value) (u : World), Sem.run Tryz.prog (callFunc f gs) u = .ok (.enter f gs) u := by
 unfold isLook at hf
 simp only [List.mem_cons, List.not_mem_nil, or_false] at hf
 rcases hf with rfl | rfl | rfl | rfl | rfl | rfl | rfl | rfl | rfl | rfl | rfl | rfl | rfl <;> intro gs u <;> kernel_rfl
theorem do_run (k : Nat) (hk1 : 1 ≤ k) (hk2 : k ≤ 11) : ∀ (gs : Array Value) (u : World), Sem.run Tryz.prog (callFunc (dof k) gs) u = .ok (.enter (dof k) gs) u := by
 rcases (show k = 1 ∨ k = 2 ∨ k = 3 ∨ k = 4 ∨ k = 5 ∨ k = 6 ∨ k = 7 ∨ k = 8 ∨ k = 9 ∨ k = 10 ∨ k = 11 by omega) with rfl | rfl | rfl | rfl | rfl | rfl | rfl | rfl | rfl | rfl | rfl <;> intro gs u <;> kernel_rfl
theorem firstE_hit : ∀ (l : List Int) (i : Nat) (hi : i < l.length), (∀ j (hj : j < i), l[j]'(by omega) = 0) → l[i] ≠ 0 → firstE l = l[i]
 | [], i, hi, _, _ => by simp at hi
 | e :: l, 0, _, _, h => by unfold firstE; rw [if_neg (by simpa using h)]; rfl
 | e :: l, i + 1, hi, h0, h => by
  have he : e = 0 := h0 0 (by omega)
  unfold firstE
  rw [if_pos he]
  exact firstE_hit l i (by simpa using hi) (fun j hj => by simpa using h0 (j + 1) (by omega)) (by simpa using h)
theorem firstE_all : ∀ (l : List Int), (∀ j (hj : j < l.length), l[j] = 0) → firstE l = 0
 | [], _ => rfl
 | e :: l, h => by
  have he : e = 0 := h 0 (by simp)
  unfold firstE
  rw [if_pos he]
  exact firstE_all l (fun j hj => h (j + 1) (by simpa using hj))
theorem fm_kind {o : OW} {dn : Nat} (h : fmE o dn = 0) : ∃ k : Nat, 1 ≤ k ∧ k ≤ 11 ∧ o.k = (k : Int) := by
 unfold fmE at h
 by_cases hk : o.k < 1 ∨ 11 < o.k
 ·have e : ckO o.k o.nm o.ot o.fr o.tt dn = 100 := by unfold ckO; rw [if_pos hk]
  rw [e] at h
  simp at h
 ·exact ⟨o.k.toNat, by omega, by omega, by omega⟩
theorem do_needs (k : Nat) (hk1 : 1 ≤ k) (hk2 : k ≤ 11) (x : VW) (o : OW) (pn po : Int) (hpn : PlO x pn) (hpo : PlO x po) (h0 : ∀ j (hj : j < (lks k).length), lkE ((lks k)[j]'hj) x o pn po = 0) : (4 ≤ k → k ≤ 10 → ∃ i : Nat, i < x.vs.length ∧ pn = (i : Int)) ∧ (k = 2 ∨ k = 3 ∨ k = 7 → ∃ i : Nat, i < x.vs.length ∧ po = (i : Int)) := by
 have hN : lkE 55 x o pn po = 0 → ∃ q : Nat, q < x.vs.length ∧ pn = (q : Int) := fun h => by
  have := (unl_zero (by decide)).1 h
  rcases hpn with e | e
  ·rw [e] at this; simp at this
  ·exact e
 have hO : lkE 51 x o pn po = 0 → ∃ q : Nat, q < x.vs.length ∧ po = (q : Int) := fun h => by
  have := (unl_zero (by decide)).1 h
  rcases hpo with e | e
  ·rw [e] at this; simp at this
  ·exact e
 rcases (show k = 1 ∨ k = 2 ∨ k = 3 ∨ k = 4 ∨ k = 5 ∨ k = 6 ∨ k = 7 ∨ k = 8 ∨ k = 9 ∨ k = 10 ∨ k = 11 by omega) with rfl | rfl | rfl | rfl | rfl | rfl | rfl | rfl | rfl | rfl | rfl
 ·exact ⟨fun h => by omega, fun h => by omega⟩
 ·exact ⟨fun h => by omega, fun _ => hO (h0 0 (by decide))⟩
 ·exact ⟨fun h => by omega, fun _ => hO (h0 0 (by decide))⟩
 ·exact ⟨fun _ _ => hN (h0 0 (by decide)), fun h => by omega⟩
 ·exact ⟨fun _ _ => hN (h0 0 (by decide)), fun h => by omega⟩
 ·exact ⟨fun _ _ => hN (h0 0 (by decide)), fun h => by omega⟩
 ·exact ⟨fun _ _ => hN (h0 0 (by decide)), fun _ => hO (h0 1 (by decide))⟩
 ·exact ⟨fun _ _ => hN (h0 0 (by decide)), fun h => by omega⟩
 ·exact ⟨fun _ _ => hN (h0 0 (by decide)), fun h => by omega⟩
 ·exact ⟨fun _ _ => hN (h0 0 (by decide)), fun h => by omega⟩
 ·exact ⟨fun h h2 => by omega, fun h => by omega⟩
theorem DrB.setO {w4 : World} {D : Nat} {x : VW} {u : Value} {o' o : OW} {dv' dv : Value} {pn' po' pn po : Int} (h : DrB w4 D x u o' dv' pn' po') : DrB ((((((((w4.setCell ⟨D, 4, none⟩ (.int .i64 o.k)).setCell ⟨D, 5, none⟩ (.string o.nm)).setCell ⟨D, 6, none⟩ (.string o.ot)).setCell ⟨D, 7, none⟩ (.int .i64 o.fr)).setCell ⟨D, 8, none⟩ (.int .i64 o.tt)).setCell ⟨D, 9, none⟩ dv).setCell ⟨D, 10, none⟩ (.int .i64 pn)).setCell ⟨D, 11, none⟩ (.int .i64 po)) D x u o dv pn po := by
 unfold DrB at *
 simp [World.setCell, Array.getElem?_modify, h]
set_option maxRecDepth 100000 in
set_option maxHeartbeats 8000000 in
theorem take_any (B D R : Nat) (x : VW) (u : Value) (us : List Value) (o0 : OW) (dv0 : Value) (pn0 po0 : Int) (o : OW) (da : Option Addr) (dn dc : Nat) (w : World) (H : DrV B w D x u us o0 dv0 pn0 po0) (hG : GT w) (hRu : RuB w R) (hl : shV x.vs) (hl2 : x.vs.length ≤ 16777215) (hB : B ≤ w.heap.size) (hnm : o.nm.size ≤ 16777216) (hot : o.ot.size ≤ 16777216) (hf : -9223372036854775808 ≤ o.fr) (ht : o.tt ≤ 9223372036854775807) :
  Calls Tryz.prog 32 #[.pointer (some ⟨D, 0, none⟩), opA o da dn dc, .slice (some ⟨R, 0, none⟩) 12 12] w fun e w' => TkQ B w D x o dn e w' := by
 obtain ⟨P, hP⟩ : ∃ P, P = w.heap.size := ⟨_, rfl⟩
 obtain ⟨W1, hW1⟩ : ∃ W1, W1 = w.alloc (.cells #[.int .i64 o.k, .string o.nm, .string o.ot, .int .i64 o.fr, .int .i64 o.tt, .slice da dn dc] 42) := ⟨_, rfl⟩
 have b1 : Below w.heap.size w W1 := by rw [hW1]; exact below1 _ _
 have hP1 : W1.heap[P]? = some (.cells #[.int .i64 o.k, .string o.nm, .string o.ot, .int .i64 o.fr, .int .i64 o.tt, .slice da dn dc] 42 (0, 0)) := by rw [hW1, hP]; exact heap_new _ _
 have hPl : P < W1.heap.size := (Array.getElem?_eq_some_iff.1 hP1).1
 have HFm := hid (formOf75_any o da dn dc W1 (hG.next b1) hnm hot hf ht)
 have cells : ∀ y : World, y.heap[P]? = W1.heap[P]? → y.cell? ⟨P, 0, none⟩ = some (.int .i64 o.k) ∧ y.cell? ⟨P, 1, none⟩ = some (.string o.nm) ∧ y.cell? ⟨P, 2, none⟩ = some (.string o.ot) ∧ y.cell? ⟨P, 3, none⟩ = some (.int .i64 o.fr) ∧ y.cell? ⟨P, 4, none⟩ = some (.int .i64 o.tt) ∧ y.cell? ⟨P, 5, none⟩ = some (.slice da dn dc) := fun y hy => by
  rw [hP1] at hy
  simp [World.cell?, hy]
 obtain ⟨c0, c1, c2, c3, c4, c5⟩ := cells W1 rfl
 have HW1 := hid hW1
 have HP := hid hP
 by_cases hfm : fmE o dn = 0
 ·have hE : tkE x o dn = firstE (lksE o.k.toNat x o (plcF x.vs o.nm 0) (plcF x.vs o.ot 0)) := by unfold tkE; rw [if_pos hfm]
  obtain ⟨k, hk1, hk2, hok⟩ := fm_kind hfm
  have hkn : o.k.toNat = k := by omega
  rw [hfm] at HFm
  have hX : tkX x o = doX k x o (plcF x.vs o.nm 0) (plcF x.vs o.ot 0) := by unfold tkX; rw [hkn]
  rw [hkn] at hE
  rw [hok] at cells c0
  obtain ⟨a, c, rfl, hRv, _⟩ := H.ow.rd
  have hpn := plO x o.nm
  have hpo := plO x o.ot
  have HPl : Hid (∀ y nm, Below W1.heap.size W1 y → Calls Tryz.prog 76 #[.pointer (some ⟨D, 0, none⟩), .string nm] y fun e w' => LkQ y (plcF x.vs nm 0) e w') := fun y nm hy => by
   have hb := b1.trans (hy.mono b1.size)
   exact placeOf_any D x a c o0 dv0 pn0 po0 nm y (H.next hb).dr (by omega) ((hRv.below hb).mono hb.size)
  generalize hpnv : plcF x.vs o.nm 0 = pn at *
  generalize hpov : plcF x.vs o.ot 0 = po at *
  have HPN := hid hpnv
  have HPO := hid hpov
  have hDP : D ≠ P := by have := H.dr.lt; omega
  have HKs : Hid (∀ y, Below W1.heap.size W1 y → y.cell? ⟨P, 0, none⟩ = some (.int .i64 (k : Int)) ∧ y.cell? ⟨P, 1, none⟩ = some (.string o.nm) ∧ y.cell? ⟨P, 2, none⟩ = some (.string o.ot) ∧ y.cell? ⟨P, 3, none⟩ = some (.int .i64 o.fr) ∧ y.cell? ⟨P, 4, none⟩ = some (.int .i64 o.tt) ∧ y.cell? ⟨P, 5, none⟩ = some (.slice da dn dc)) := fun y hy => cells y (hy.block _ hPl)
  have hset : ∀ (y : World) (i : Nat) (z : Value), (y.setCell ⟨D, i, none⟩ z).heap[P]? = y.heap[P]? := fun y i z => Below.heap_setCell _ _ _ _ (fun e => hDP e.symm)
  have hDR : D ≠ R ∧ True := ⟨fun e => by
   obtain ⟨L, _, h1, _⟩ := hRu.2 1 (by omega) (by omega)
   have h2 := H.dr.cs.2.2.1
   rw [← e] at h1
   rw [h1] at h2
   simp at h2, trivial⟩
  have HD4 : Hid (∀ w4, Below W1.heap.size W1 w4 → ((∃ z4, w4.cell? ⟨D, 4, none⟩ = some z4 ∧ True) ∧ True) ∧ True) := fun w4 hb => ⟨⟨⟨_, (H.next (b1.trans (hb.mono b1.size))).dr.cs.2.2.2.2.1, trivial⟩, trivial⟩, trivial⟩
  have HD4 : Hid (∀ w4, Below W1.heap.size W1 w4 → (w4.cell? ⟨D, 4, none⟩ = some (.int .i64 o0.k) ∧ w4.cell? ⟨D, 5, none⟩ = some (.string o0.nm) ∧ w4.cell? ⟨D, 6, none⟩ = some (.string o0.ot) ∧ w4.cell? ⟨D, 7, none⟩ = some (.int .i64 o0.fr) ∧ w4.cell? ⟨D, 8, none⟩ = some (.int .i64 o0.tt) ∧ w4.cell? ⟨D, 9, none⟩ = some dv0 ∧ w4.cell? ⟨D, 10, none⟩ = some (.int .i64 pn0) ∧ w4.cell? ⟨D, 11, none⟩ = some (.int .i64 po0)) ∧ (w4.frozen? ⟨D, 4, none⟩ = false ∧ w4.frozen? ⟨D, 5, none⟩ = false ∧ w4.frozen? ⟨D, 6, none⟩ = false ∧ w4.frozen? ⟨D, 7, none⟩ = false ∧ w4.frozen? ⟨D, 8, none⟩ = false ∧ w4.frozen? ⟨D, 9, none⟩ = false ∧ w4.frozen? ⟨D, 10, none⟩ = false ∧ w4.frozen? ⟨D, 11, none⟩ = false) ∧ (((((((w4.setCell ⟨D, 4, none⟩ (.int .i64 (k : Int))).setCell ⟨D, 5, none⟩ (.string o.nm)).setCell ⟨D, 6, none⟩ (.string o.ot)).setCell ⟨D, 7, none⟩ (.int .i64 o.fr)).setCell ⟨D, 8, none⟩ (.int .i64 o.tt)).setCell ⟨D, 9, none⟩ (.slice da dn dc)).cell? ⟨P, 0, none⟩ = some (.int .i64 (k : Int)) ∧ ((((((w4.setCell ⟨D, 4, none⟩ (.int .i64 (k : Int))).setCell ⟨D, 5, none⟩ (.string o.nm)).setCell ⟨D, 6, none⟩ (.string o.ot)).setCell ⟨D, 7, none⟩ (.int .i64 o.fr)).setCell ⟨D, 8, none⟩ (.int .i64 o.tt)).setCell ⟨D, 9, none⟩ (.slice da dn dc)).cell? ⟨P, 1, none⟩ = some (.string o.nm) ∧ ((((((w4.setCell ⟨D, 4, none⟩ (.int .i64 (k : Int))).setCell ⟨D, 5, none⟩ (.string o.nm)).setCell ⟨D, 6, none⟩ (.string o.ot)).setCell ⟨D, 7, none⟩ (.int .i64 o.fr)).setCell ⟨D, 8, none⟩ (.int .i64 o.tt)).setCell ⟨D, 9, none⟩ (.slice da dn dc)).cell? ⟨P, 2, none⟩ = some (.string o.ot) ∧ ((((((w4.setCell ⟨D, 4, none⟩ (.int .i64 (k : Int))).setCell ⟨D, 5, none⟩ (.string o.nm)).setCell ⟨D, 6, none⟩ (.string o.ot)).setCell ⟨D, 7, none⟩ (.int .i64 o.fr)).setCell ⟨D, 8, none⟩ (.int .i64 o.tt)).setCell ⟨D, 9, none⟩ (.slice da dn dc)).cell? ⟨P, 3, none⟩ = some (.int .i64 o.fr) ∧ ((((((w4.setCell ⟨D, 4, none⟩ (.int .i64 (k : Int))).setCell ⟨D, 5, none⟩ (.string o.nm)).setCell ⟨D, 6, none⟩ (.string o.ot)).setCell ⟨D, 7, none⟩ (.int .i64 o.fr)).setCell ⟨D, 8, none⟩ (.int .i64 o.tt)).setCell ⟨D, 9, none⟩ (.slice da dn dc)).cell? ⟨P, 4, none⟩ = some (.int .i64 o.tt) ∧ ((((((w4.setCell ⟨D, 4, none⟩ (.int .i64 (k : Int))).setCell ⟨D, 5, none⟩ (.string o.nm)).setCell ⟨D, 6, none⟩ (.string o.ot)).setCell ⟨D, 7, none⟩ (.int .i64 o.fr)).setCell ⟨D, 8, none⟩ (.int .i64 o.tt)).setCell ⟨D, 9, none⟩ (.slice da dn dc)).cell? ⟨P, 5, none⟩ = some (.slice da dn dc)) ∧ ((((((((w4.setCell ⟨D, 4, none⟩ (.int .i64 (k : Int))).setCell ⟨D, 5, none⟩ (.string o.nm)).setCell ⟨D, 6, none⟩ (.string o.ot)).setCell ⟨D, 7, none⟩ (.int .i64 o.fr)).setCell ⟨D, 8, none⟩ (.int .i64 o.tt)).setCell ⟨D, 9, none⟩ (.slice da dn dc)).setCell ⟨D, 10, none⟩ (.int .i64 pn)).cell? ⟨P, 0, none⟩ = some (.int .i64 (k : Int)) ∧ (((((((w4.setCell ⟨D, 4, none⟩ (.int .i64 (k : Int))).setCell ⟨D, 5, none⟩ (.string o.nm)).setCell ⟨D, 6, none⟩ (.string o.ot)).setCell ⟨D, 7, none⟩ (.int .i64 o.fr)).setCell ⟨D, 8, none⟩ (.int .i64 o.tt)).setCell ⟨D, 9, none⟩ (.slice da dn dc)).setCell ⟨D, 10, none⟩ (.int .i64 pn)).cell? ⟨P, 1, none⟩ = some (.string o.nm) ∧ (((((((w4.setCell ⟨D, 4, none⟩ (.int .i64 (k : Int))).setCell ⟨D, 5, none⟩ (.string o.nm)).setCell ⟨D, 6, none⟩ (.string o.ot)).setCell ⟨D, 7, none⟩ (.int .i64 o.fr)).setCell ⟨D, 8, none⟩ (.int .i64 o.tt)).setCell ⟨D, 9, none⟩ (.slice da dn dc)).setCell ⟨D, 10, none⟩ (.int .i64 pn)).cell? ⟨P, 2, none⟩ = some (.string o.ot) ∧ (((((((w4.setCell ⟨D, 4, none⟩ (.int .i64 (k : Int))).setCell ⟨D, 5, none⟩ (.string o.nm)).setCell ⟨D, 6, none⟩ (.string o.ot)).setCell ⟨D, 7, none⟩ (.int .i64 o.fr)).setCell ⟨D, 8, none⟩ (.int .i64 o.tt)).setCell ⟨D, 9, none⟩ (.slice da dn dc)).setCell ⟨D, 10, none⟩ (.int .i64 pn)).cell? ⟨P, 3, none⟩ = some (.int .i64 o.fr) ∧ (((((((w4.setCell ⟨D, 4, none⟩ (.int .i64 (k : Int))).setCell ⟨D, 5, none⟩ (.string o.nm)).setCell ⟨D, 6, none⟩ (.string o.ot)).setCell ⟨D, 7, none⟩ (.int .i64 o.fr)).setCell ⟨D, 8, none⟩ (.int .i64 o.tt)).setCell ⟨D, 9, none⟩ (.slice da dn dc)).setCell ⟨D, 10, none⟩ (.int .i64 pn)).cell? ⟨P, 4, none⟩ = some (.int .i64 o.tt) ∧ (((((((w4.setCell ⟨D, 4, none⟩ (.int .i64 (k : Int))).setCell ⟨D, 5, none⟩ (.string o.nm)).setCell ⟨D, 6, none⟩ (.string o.ot)).setCell ⟨D, 7, none⟩ (.int .i64 o.fr)).setCell ⟨D, 8, none⟩ (.int .i64 o.tt)).setCell ⟨D, 9, none⟩ (.slice da dn dc)).setCell ⟨D, 10, none⟩ (.int .i64 pn)).cell? ⟨P, 5, none⟩ = some (.slice da dn dc)) ∧ Hid (∀ y, y = ((((((((w4.setCell ⟨D, 4, none⟩ (.int .i64 (k : Int))).setCell ⟨D, 5, none⟩ (.string o.nm)).setCell ⟨D, 6, none⟩ (.string o.ot)).setCell ⟨D, 7, none⟩ (.int .i64 o.fr)).setCell ⟨D, 8, none⟩ (.int .i64 o.tt)).setCell ⟨D, 9, none⟩ (.slice da dn dc)).setCell ⟨D, 10, none⟩ (.int .i64 pn)).setCell ⟨D, 11, none⟩ (.int .i64 po)) → DrV B y D x (.slice a x.vs.length c) us o (.slice da dn dc) pn po ∧ BelK B w y ∧ RuB y R ∧ (y.cell? ⟨P, 0, none⟩ = some (.int .i64 (k : Int)) ∧ y.cell? ⟨P, 1, none⟩ = some (.string o.nm) ∧ y.cell? ⟨P, 2, none⟩ = some (.string o.ot) ∧ y.cell? ⟨P, 3, none⟩ = some (.int .i64 o.fr) ∧ y.cell? ⟨P, 4, none⟩ = some (.int .i64 o.tt) ∧ y.cell? ⟨P, 5, none⟩ = some (.slice da dn dc)))) := fun w4 hb => by
   have hbw := b1.trans (hb.mono b1.size)
   have H4 := H.next hbw
   obtain ⟨_, _, _, _, d4, d5, d6, d7, d8, d9, d10, d11⟩ := H4.dr.cs
   have hP4 : w4.heap[P]? = W1.heap[P]? := hb.block _ hPl
   refine ⟨⟨d4, d5, d6, d7, d8, d9, d10, d11⟩, ⟨H4.dr.fz 4, H4.dr.fz 5, H4.dr.fz 6, H4.dr.fz 7, H4.dr.fz 8, H4.dr.fz 9, H4.dr.fz 10, H4.dr.fz 11⟩, cells _ (by simp only [hset]; exact hP4), cells _ (by simp only [hset]; exact hP4), hid (fun y hy => ?_)⟩
   have hyh : ∀ z, z ≠ D → y.heap[z]? = w4.heap[z]? := fun z hz => by
    rw [hy]
    iterate 8 rw [Below.heap_setCell _ _ _ _ hz]
   have hys : y.heap.size = w4.heap.size := by rw [hy]; simp [World.setCell]
   have hdr : DrB y D x (.slice a x.vs.length c) o (.slice da dn dc) pn po := by rw [hy, ← hok]; exact H4.dr.setO
   refine ⟨⟨hdr, ⟨H4.ow.len, own_keep H4.ow.row fun z hz => hyh z (fun e => H4.ne.1 (by rw [hz, e])), fun i hi => own_keep (H4.ow.dat i hi) fun z hz => hyh z (fun e => H4.ne.2 i (by rw [H4.ow.len]; exact hi) (by rw [hz, e]))⟩, H4.ap, H4.hD⟩, ?_, ?_, cells y ((hyh P (fun e => hDP e.symm)).trans hP4)⟩
   ·have q : BelK B w w4 := BelK.low hbw rfl hB
    have hD := H.hD
    have k0 := H4.kd
    have k1 := k0.set ⟨D, 4, none⟩ (.int .i64 o.k)
    have k2 := k1.set ⟨D, 5, none⟩ (.string o.nm)
    have k3 := k2.set ⟨D, 6, none⟩ (.string o.ot)
    have k4 := k3.set ⟨D, 7, none⟩ (.int .i64 o.fr)
    have k5 := k4.set ⟨D, 8, none⟩ (.int .i64 o.tt)
    have k6 := k5.set ⟨D, 9, none⟩ (.slice da dn dc)
    have k7 := k6.set ⟨D, 10, none⟩ (.int .i64 pn)
    rw [hy, ← hok]
    exact (((((((q.set (p := ⟨D, 4, none⟩) hD k0 _).set (p := ⟨D, 5, none⟩) hD k1 _).set (p := ⟨D, 6, none⟩) hD k2 _).set (p := ⟨D, 7, none⟩) hD k3 _).set (p := ⟨D, 8, none⟩) hD k4 _).set (p := ⟨D, 9, none⟩) hD k5 _).set (p := ⟨D, 10, none⟩) hD k6 _).set (p := ⟨D, 11, none⟩) hD k7 _
   ·have hR4 := hRu.next hbw
    refine ⟨by rw [hys]; exact hR4.1, fun k' h1 h2 => ?_⟩
    obtain ⟨L, hL, g1, g2, g3⟩ := hR4.2 k' h1 h2
    have hLD : L ≠ D := fun e => by
     have q := g3 0 (by rcases (show k' = 1 ∨ k' = 2 ∨ k' = 3 ∨ k' = 4 ∨ k' = 5 ∨ k' = 6 ∨ k' = 7 ∨ k' = 8 ∨ k' = 9 ∨ k' = 10 ∨ k' = 11 by omega) with rfl | rfl | rfl | rfl | rfl | rfl | rfl | rfl | rfl | rfl | rfl <;> decide)
     have q2 := H4.dr.cs.1
     rw [← e, q] at q2
     simp at q2
    have hRD : y.heap[R]? = w4.heap[R]? := hyh R (fun e => hDR.1 e.symm)
    have hLD2 : y.heap[L]? = w4.heap[L]? := hyh L hLD
    refine ⟨L, by rw [hys]; exact hL, ?_, ?_, fun i hi => ?_⟩
    ·simp only [World.cell?, hRD]; exact g1
    ·simp only [World.cell?, hRD]; exact g2
    ·simp only [World.cell?, hLD2]; exact g3 i hi
  have HT : Hid (∀ y, DrV B y D x (.slice a x.vs.length c) us o (.slice da dn dc) pn po → BelK B w y → RuB y R → ∃ L, L < y.heap.size ∧ (y.cell? ⟨R, k * 2, none⟩ = some (.slice (some ⟨L, 0, none⟩) (lks k).length (lks k).length) ∧ y.cell? ⟨R, k * 2 + 1, none⟩ = some (.func (.func (dof k)) #[] #[])) ∧ (∀ i (hi : i < (lks k).length) wr, Below y.heap.size y wr → (∀ j (hj : j < i), lkE ((lks k)[j]'(by omega)) x o pn po = 0) → ∃ f, wr.cell? ⟨L, i, none⟩ = some (.func (.func f) #[] #[]) ∧ (∀ (gs : Array Value) (u : World), Sem.run Tryz.prog (callFunc f gs) u = .ok (.enter f gs) u) ∧ (Calls Tryz.prog f #[.pointer (some ⟨D, 0, none⟩)] wr fun e w' => LkQ wr (lkE ((lks k)[i]'hi) x o pn po) e w') ∧ (lkE ((lks k)[i]'hi) x o pn po ≠ 0 → ∀ w', Below wr.heap.size wr w' → TkQ B w D x o dn (.returned (.int .i64 (lkE ((lks k)[i]'hi) x o pn po))) w')) ∧ (∀ wr, Below y.heap.size y wr → (∀ j (hj : j < (lks k).length), lkE ((lks k)[j]'hj) x o pn po = 0) → Calls Tryz.prog (dof k) #[.pointer (some ⟨D, 0, none⟩)] wr fun e w' => e = .returned (.tuple #[]) ∧ TkQ B w D x o dn (.returned (.int .i64 0)) w')) := fun y hy hby hRy => by
   obtain ⟨L, hL, g1, g2, g3⟩ := hRy.2 k hk1 hk2
   have hlen : (lksE k x o pn po).length = (lks k).length := by unfold lksE; simp
   have hget : ∀ i (hi : i < (lks k).length), (lksE k x o pn po)[i]'(by rw [hlen]; exact hi) = lkE ((lks k)[i]'hi) x o pn po := fun i hi => by unfold lksE; simp
   refine ⟨L, hL, ⟨g1, g2⟩, fun i hi wr hb h0 => ?_, fun wr hb h0 => ?_⟩
   ·obtain ⟨n1, n2, n3⟩ := looks_need k hk1 hk2 x o pn po hpn hpo i hi h0
    refine ⟨(lks k)[i], (hb.cell (by exact hL)).trans (g3 i hi), look_run _ n1, look_any _ n1 B D x _ us o _ pn po wr (hy.next hb) (by omega) n2 n3, fun hne w' hw' => ?_⟩
    have he : tkE x o dn = lkE ((lks k)[i]'hi) x o pn po := by
     rw [hE, firstE_hit _ i (by rw [hlen]; exact hi) (fun j hj => by rw [hget j (by omega)]; exact h0 j hj) (by rw [hget i hi]; exact hne), hget i hi]
    refine ⟨by rw [he], ?_, fun h => absurd (he ▸ h) hne⟩
    exact hby.trans (BelK.low (hb.trans (hw'.mono hb.size)) rfl (Nat.le_trans hB hby.size))
   ·have he : tkE x o dn = 0 := by
     rw [hE]
     exact firstE_all _ (fun j hj => by rw [hget j (by rw [← hlen]; exact hj)]; exact h0 j (by rw [← hlen]; exact hj))
    have hN := do_needs k hk1 hk2 x o pn po hpn hpo h0
    refine (do_any k hk1 hk2 B D x _ us o _ pn po wr (hy.next hb) hl hl2 (by have := hby.size; have := hb.size; omega) hN.1 hN.2).mono fun e w' hq => ?_
    refine ⟨hq.1, by rw [he], ?_, fun _ => ?_⟩
    ·exact (hby.trans (BelK.low hb rfl (Nat.le_trans hB hby.size))).trans hq.2.2
    ·obtain ⟨u', us', h1⟩ := hq.2.1
     exact ⟨u', us', o, _, pn, po, by rw [hX]; exact h1⟩
  have hRl := hRu.1
  have HRl := hid hRl
  have hk3 : (k : Int) < 12 := by omega
  have mixed : Tryz.prog.follows Departure.mixedOrders = true := by kernel_rfl
  obtain ⟨A, hA⟩ : ∃ A : Nat → Int, A = fun i => lkE ((lks k).getD i 0) x o pn po := ⟨_, rfl⟩
  have HA : Hid (∀ i (hi : i < (lks k).length), lkE ((lks k)[i]'hi) x o pn po = A i) := fun i hi => by
   rw [hA]
   dsimp only
   rw [List.getD_eq_getElem?_getD, List.getElem?_eq_getElem hi]
   exact rfl
  have hok' := hid hok
  have HN4 : Hid ((lks k).length ≤ 4) := by
   unfold Hid
   rcases (show k = 1 ∨ k = 2 ∨ k = 3 ∨ k = 4 ∨ k = 5 ∨ k = 6 ∨ k = 7 ∨ k = 8 ∨ k = 9 ∨ k = 10 ∨ k = 11 by omega) with rfl | rfl | rfl | rfl | rfl | rfl | rfl | rfl | rfl | rfl | rfl <;> decide
  have HDF : Hid (∀ (gs : Array Value) (u : World), Sem.run Tryz.prog (callFunc (dof k) gs) u = .ok (.enter (dof k) gs) u) := do_run k hk1 hk2
  clear hA H hG hRu hl hB b1 hW1 hP hP1 cells hE hX hpn hpo hRv hset hDP hDR hPl hfm hkn hk2 hk1 hl2 hpnv hpov hRl hok
  dsimp only [opA] at HFm
  rw [hok'.out] at HW1 HFm
  show Calls Tryz.prog 32 #[.pointer (some ⟨D, 0, none⟩), .agg #[.int .i64 o.k, .string o.nm, .string o.ot, .int .i64 o.fr, .int .i64 o.tt, .slice da dn dc], .slice (some ⟨R, 0, none⟩) 12 12] w _
  rw [hok'.out]
  go_enter Tryz.func32, Tryz.ntmps32
  go_wp2_with fail
  rw [← HW1.out, ← HP.out]
  go_wp2_with fail
  refine HFm.out.mono ?_
  rintro e w2 ⟨rfl, hb2⟩
  clear HFm c0 c1 c2 c3 c4 c5
  obtain ⟨c0, c1, c2, c3, c4, c5⟩ := HKs.out w2 hb2
  go_wp2_with fail
  refine wp_region_last (S := (fun y => y.cell? ⟨P, 0, none⟩ = some (.int .i64 (k : Int)) ∧ y.cell? ⟨P, 1, none⟩ = some (.string o.nm) ∧ y.cell? ⟨P, 2, none⟩ = some (.string o.ot) ∧ y.cell? ⟨P, 3, none⟩ = some (.int .i64 o.fr) ∧ y.cell? ⟨P, 4, none⟩ = some (.int .i64 o.tt) ∧ y.cell? ⟨P, 5, none⟩ = some (.slice da dn dc))) 20 20 (by kernel_rfl) (by kernel_rfl) (by kernel_rfl) (HKs.out w2 hb2) (fun hSS => ?_)
  refine Ti 0 rfl ?_
  refine Ti 1 rfl ?_
  refine Ti 2 rfl ?_
  refine Ti 3 rfl ?_
  try simp only [Act.put, zA, zB, zC]
  refine Ti 4 rfl ?_
  refine Ti 5 rfl ?_
  refine Ti 6 rfl ?_
  refine Ti 8 rfl ?_
  try simp only [Act.put, zA, zB, zC]
  refine Ti 9 rfl ?_
  refine Ti 10 rfl ?_
  try simp only [Act.put, zA, zB, zC]
  refine Ri 7 rfl (fun K9 hK9 => ?_)
  go_simp
  go_at_call 76
  refine (HPl.out _ o.nm (below_dr hb2)).mono ?_
  rintro e w3 ⟨rfl, hb3⟩
  have hw3 := hb2.trans ((undrew hb3).mono hb2.size)
  refine hK9.out _ _ (HKs.out w3 hw3) (fun hSS => ?_)
  try simp only [Act.put, zA, zB, zC]
  refine Ri 11 rfl (fun K9 hK9 => ?_)
  go_simp
  go_at_call 76
  refine (HPl.out w3 o.ot hw3).mono ?_
  rintro e w4 ⟨rfl, hb4⟩
  have hw4 := hw3.trans (hb4.mono hw3.size)
  rw [HPN.out, HPO.out]
  obtain ⟨⟨q4, q5, q6, q7, q8, q9, q10, q11⟩, ⟨z4, z5, z6, z7, z8, z9, z10, z11⟩, kp14, kp17, hfin⟩ := HD4.out w4 hw4
  refine hK9.out _ _ (HKs.out w4 hw4) (fun hSS => ?_)
  try simp only [Act.put, zA, zB, zC]
  refine Ti 12 rfl ?_
  refine Ti 13 rfl ?_
  try simp only [Act.put, zA, zB, zC]
  refine Ri 14 rfl (fun K9 hK9 => ?_)
  go_simp
  refine hK9.out _ _ kp14 (fun hSS => ?_)
  try simp only [Act.put, zA, zB, zC]
  refine Ti 15 rfl ?_
  refine Ti 16 rfl ?_
  try simp only [Act.put, zA, zB, zC]
  refine Ri 17 rfl (fun K9 hK9 => ?_)
  go_simp
  refine hK9.out _ _ kp17 (fun hSS => ?_)
  try simp only [Act.put, zA, zB, zC]
  refine Ti 18 rfl ?_
  try simp only [Act.put, zA, zB, zC]
  refine Ti 19 rfl ?_
  try simp only [Act.put, zA, zB, zC]
  refine Dn ?_
  refine last_step (L := 20) (o := ({ dst := none, op := Op.store 3 (Operand.tmp 34) (Operand.tmp 28), type := 0, pos := _, after := _, guard := none } : Oper)) rfl (fun K9 hK9 => ?_)
  go_simp
  refine hK9.out _ _ ?_
  try simp only [Act.put, zA, zB, zC]
  have hfin' := fun y hy => hfin.out y hy
  obtain ⟨W5, hW5⟩ : ∃ W5, W5 = ((((((((w4.setCell ⟨D, 4, none⟩ (.int .i64 (k : Int))).setCell ⟨D, 5, none⟩ (.string o.nm)).setCell ⟨D, 6, none⟩ (.string o.ot)).setCell ⟨D, 7, none⟩ (.int .i64 o.fr)).setCell ⟨D, 8, none⟩ (.int .i64 o.tt)).setCell ⟨D, 9, none⟩ (.slice da dn dc)).setCell ⟨D, 10, none⟩ (.int .i64 pn)).setCell ⟨D, 11, none⟩ (.int .i64 po)) := ⟨_, rfl⟩
  rw [← hW5]
  obtain ⟨hd5, hb5, hr5, p0, p1, p2, p3, p4, p5⟩ := hfin' W5 hW5
  obtain ⟨L, hL, ⟨g1, g2⟩, hlk, hdo⟩ := HT.out W5 hd5 hb5 hr5
  have HLK := hid hlk
  have HDO := hid hdo
  have hRl5 := hr5.1
  clear hW5 hfin' hfin hd5 hb5 hr5 hb2 hb3 hb4 hw3 hw4 q4 q5 q6 q7 q8 q9 q10 q11 z4 z5 z6 z7 z8 z9 z10 z11 kp14 kp17 c0 c1 c2 c3 c4 c5 HT HD4 HPl HKs hlk hdo hSS
  obtain ⟨n, hn⟩ : ∃ n, (lks k).length = n := ⟨_, rfl⟩
  have HLK2 : Hid (∀ i, i < n → ∀ wr, Below W5.heap.size W5 wr → (∀ j, j < i → A j = 0) → ∃ f, wr.cell? ⟨L, i, none⟩ = some (.func (.func f) #[] #[]) ∧ (∀ (gs : Array Value) (u : World), Sem.run Tryz.prog (callFunc f gs) u = .ok (.enter f gs) u) ∧ (Calls Tryz.prog f #[.pointer (some ⟨D, 0, none⟩)] wr fun e w' => LkQ wr (A i) e w') ∧ (A i ≠ 0 → ∀ w', Below wr.heap.size wr w' → TkQ B w D x o dn (.returned (.int .i64 (A i))) w')) := fun i hi wr hb h0 => by
   have hi' : i < (lks k).length := by omega
   have := HLK.out i hi' wr hb (fun j hj => by rw [HA.out j (by omega)]; exact h0 j hj)
   rw [HA.out i hi'] at this
   exact this
  have HDO2 : Hid (∀ wr, Below W5.heap.size W5 wr → (∀ j, j < n → A j = 0) → Calls Tryz.prog (dof k) #[.pointer (some ⟨D, 0, none⟩)] wr fun e w' => e = .returned (.tuple #[]) ∧ TkQ B w D x o dn (.returned (.int .i64 0)) w') := fun wr hb h0 => HDO.out wr hb (fun j hj => by rw [HA.out j hj]; exact h0 j (by omega))
  have hdf := HDF.out
  have hn4 : n ≤ 4 := by have := HN4.out; omega
  rw [hn] at g1
  clear hn HLK HDO HA
  generalize dof k = df at *
  obtain ⟨Q, hQ⟩ : ∃ Q, Q = W5.heap.size := ⟨_, rfl⟩
  obtain ⟨W6, hW6⟩ : ∃ W6, W6 = W5.alloc (.cells #[.slice (some ⟨L, 0, none⟩) n n, .func (.func df) #[] #[]] 99) := ⟨_, rfl⟩
  have b6 : Below W5.heap.size W5 W6 := by rw [hW6]; exact below1 _ _
  have hQ6 : W6.heap[Q]? = some (.cells #[.slice (some ⟨L, 0, none⟩) n n, .func (.func df) #[] #[]] 99 (0, 0)) := by rw [hW6, hQ]; exact heap_new _ _
  have hQl : Q < W6.heap.size := (Array.getElem?_eq_some_iff.1 hQ6).1
  have HQc : Hid (∀ wr, Below W6.heap.size W6 wr → wr.cell? ⟨Q, 0, none⟩ = some (.slice (some ⟨L, 0, none⟩) n n) ∧ wr.cell? ⟨Q, 1, none⟩ = some (.func (.func df) #[] #[])) := fun wr hb => by
   have := (hb.block Q hQl).trans hQ6
   simp [World.cell?, this]
  obtain ⟨u0, u1⟩ := HQc.out W6 (Below.refl _ _)
  have HB6 := hid b6
  have HW6 := hid hW6
  have HQQ := hid hQ
  clear hQ hW6 b6 hQ6 hQl
  go_wp2_with fail
  rw [← HW6.out, ← HQQ.out]
  go_wp2_with fail
  go_loopw [43] (fun iv wr => ∃ i : Nat, i ≤ n ∧ iv = .int .i64 (i : Int) ∧ (∀ j, j < i → A j = 0) ∧ Below W6.heap.size W6 wr) (fun iv _ => n - (intOf iv).toNat)
  case atStart => exact ⟨0, Nat.zero_le _, rfl, fun j hj => by omega, Below.refl _ _⟩
  case round =>
   obtain ⟨i, hin, rfl, h0, hb⟩ := hrel
   have hb5 := HB6.out.trans (hb.mono HB6.out.size)
   by_cases hlt : i < n
   ·obtain ⟨f, l0, hcf, hC, hE⟩ := HLK2.out i hlt wr hb5 h0
    have HC := hid hC
    have HE := hid hE
    have HB := hid hb
    have H0 := hid h0
    have HLT := hid hlt
    have hl1 : (i : Int) < (n : Int) := by omega
    generalize hai : A i = ai at *
    have HAI := hid hai
    clear hC hE hb h0 hb5 HLK2 HDO2 hai
    go_wp2_with fail
    refine HC.out.mono ?_
    rintro e w7 ⟨rfl, hb7⟩
    by_cases hz : ai = 0
    ·subst hz
     have HB7 := hid (HB.out.trans (hb7.mono HB.out.size))
     clear hb7 HC HE HB
     go_wp2
     go_roundw
     case rel => exact ⟨i + 1, by have := HLT.out; omega, by go_num, fun j hj => by
      by_cases e : j = i
      ·rw [e]; exact HAI.out
      ·exact H0.out j (by omega), HB7.out⟩
     case measure => have := HLT.out; simp [intOf]; omega
    ·have HQ := hid (HE.out hz w7 hb7)
     have hz' : (ai != 0) = true := by simpa using hz
     clear hb7 HC HE HB hz
     go_wp2
     go_ret
     exact HQ.out
   ·have ein : i = n := by omega
    subst ein
    have HC := hid (HDO2.out wr hb5 h0)
    obtain ⟨v0, v1⟩ := HQc.out wr hb
    have hl1 : ¬ (i : Int) < (i : Int) := by omega
    clear hb h0 hb5 HLK2 HDO2
    go_wp2_with fail
    refine HC.out.mono ?_
    rintro e w7 ⟨rfl, hq⟩
    have HQ := hid hq
    clear hq HC
    go_wp2
    go_ret
    exact HQ.out
 ·have hE : tkE x o dn = fmE o dn := by unfold tkE; rw [if_neg hfm]
  have HQ : Hid (∀ w2, Below W1.heap.size W1 w2 → TkQ B w D x o dn (.returned (.int .i64 (fmE o dn))) w2) := fun w2 hb => ⟨by rw [hE], BelK.low (b1.trans (hb.mono b1.size)) rfl hB, fun h => absurd (hE ▸ h) hfm⟩
  generalize fmE o dn = fe at *
  have hfe : (fe != 0) = true := by simpa using hfm
  clear H hG hRu hl hB b1 hW1 hP hP1 cells hE
  go_enter Tryz.func32, Tryz.ntmps32
  go_wp2_with fail
  rw [← HW1.out, ← HP.out]
  go_wp2_with fail
  refine HFm.out.mono ?_
  rintro e w2 ⟨rfl, hb2⟩
  have HQ2 := hid (HQ.out w2 hb2)
  clear hb2 HFm HQ
  go_wp2
  go_ret
  exact HQ2.out
end Go.Proofs.YtddddfankeepkaaGreatDoor
namespace Go.Proofs.YtddddfankeepkaaGreatDoor
open Go.RowKit
/-! ### the rules, in blocks of their types -/
def RuK (w : World) (R : Nat) : Prop := (∃ rs fr, w.heap[R]? = some (.cells rs 99 fr)) ∧ ∀ k, 1 ≤ k → k ≤ 11 → ∃ L, (∃ cs fr, w.heap[L]? = some (.cells cs 94 fr)) ∧ w.cell? ⟨R, k * 2, none⟩ = some (.slice (some ⟨L, 0, none⟩) (lks k).length (lks k).length) ∧ w.cell? ⟨R, k * 2 + 1, none⟩ = some (.func (.func (dof k)) #[] #[]) ∧ ∀ i (hi : i < (lks k).length), w.cell? ⟨L, i, none⟩ = some (.func (.func (lks k)[i]) #[] #[])
theorem RuK.ru {w : World} {R : Nat} (h : RuK w R) : RuB w R := by
 obtain ⟨⟨rs, fr, hR⟩, hk⟩ := h
 refine ⟨(Array.getElem?_eq_some_iff.1 hR).1, fun k h1 h2 => ?_⟩
 obtain ⟨L, ⟨cs, f, hL⟩, a, b, c⟩ := hk k h1 h2
 exact ⟨L, (Array.getElem?_eq_some_iff.1 hL).1, a, b, c⟩
theorem RuK.kept {w w' : World} {R : Nat} (h : RuK w R) (hb : ∀ (b : Nat) (cs : Array Value) (t : TypeId) (fr : Nat × Nat), w.heap[b]? = some (.cells cs t fr) → (t = 94 ∨ t = 99) → w'.heap[b]? = w.heap[b]?) : RuK w' R := by
 obtain ⟨⟨rs, fr, hR⟩, hk⟩ := h
 have eR := hb R rs 99 fr hR (.inr rfl)
 refine ⟨⟨rs, fr, eR.trans hR⟩, fun k h1 h2 => ?_⟩
 obtain ⟨L, ⟨cs, f, hL⟩, a, b, c⟩ := hk k h1 h2
 have eL := hb L cs 94 f hL (.inl rfl)
 exact ⟨L, ⟨cs, f, eL.trans hL⟩, (World.cell?_of_block (a := ⟨R, _, none⟩) eR).trans a, (World.cell?_of_block (a := ⟨R, _, none⟩) eR).trans b, fun i hi => (World.cell?_of_block (a := ⟨L, _, none⟩) eL).trans (c i hi)⟩
theorem RuK.belk {B : Nat} {w w' : World} {R : Nat} (h : RuK w R) (hb : BelK B w w') : RuK w' R := h.kept hb.kk
def RuKQ (w : World) (e : Ending) (w' : World) : Prop := ∃ R, e = .returned (.slice (some ⟨R, 0, none⟩) 12 12) ∧ RuK w' R ∧ Below w.heap.size w w'
theorem ruK_of (w : World) (os : List Obj) (h : ∀ k, 1 ≤ k → k ≤ 11 → ∃ j cs rs, j < 11 ∧ os[j]? = some (.cells cs 94 (0, 0)) ∧ os[10]? = some (.cells rs 99 (0, 0)) ∧ (rs[k * 2]? = some (.slice (some ⟨w.heap.size + j, 0, none⟩) (lks k).length (lks k).length) ∧ rs[k * 2 + 1]? = some (.func (.func (dof k)) #[] #[])) ∧ ∀ i (hi : i < (lks k).length), cs[i]? = some (.func (.func (lks k)[i]) #[] #[])) : RuKQ w (.returned (.slice (some ⟨w.heap.size + 10, 0, none⟩) 12 12)) (alls w os) := by
 obtain ⟨h1, h2, h3⟩ := alls_spec os w
 have hb : ∀ (j : Nat) (o : Obj), os[j]? = some o → (alls w os).heap[w.heap.size + j]? = some o := fun j o ho => by
  obtain ⟨hj, he⟩ := List.getElem?_eq_some_iff.1 ho
  rw [← he]
  exact h3 j hj
 refine ⟨_, rfl, ⟨?_, fun k k1 k2 => ?_⟩, h2⟩
 ·obtain ⟨j, cs, rs, hj, a, b, _⟩ := h 1 (by omega) (by omega)
  exact ⟨rs, _, hb _ _ b⟩
 ·obtain ⟨j, cs, rs, hj, a, b, ⟨c, d⟩, e⟩ := h k k1 k2
  exact ⟨w.heap.size + j, ⟨cs, _, hb _ _ a⟩, alls_cell b c, alls_cell b d, fun i hi => alls_cell a (e i hi)⟩
set_option maxRecDepth 100000 in
set_option maxHeartbeats 8000000 in
theorem rulesK_any (w : World) : Calls Tryz.prog 31 #[] w fun e w' => RuKQ w e w' := by
 go_enter Tryz.func31, Tryz.ntmps31
 go_wp2
 go_ret
 show RuKQ w (.returned (.slice (some ⟨w.heap.size + 10, 0, none⟩) 12 12)) (alls w [_, _, _, _, _, _, _, _, _, _, _])
 refine ruK_of w _ (fun k h1 h2 => ?_)
 rcases (show k = 1 ∨ k = 2 ∨ k = 3 ∨ k = 4 ∨ k = 5 ∨ k = 6 ∨ k = 7 ∨ k = 8 ∨ k = 9 ∨ k = 10 ∨ k = 11 by omega) with rfl | rfl | rfl | rfl | rfl | rfl | rfl | rfl | rfl | rfl | rfl
 ·exact ⟨4, _, _, by decide, rfl, rfl, ⟨rfl, rfl⟩, fun i hi => by match i, hi with | 0, _ => rfl | 1, _ => rfl | 2, _ => rfl⟩
 ·exact ⟨0, _, _, by decide, rfl, rfl, ⟨rfl, rfl⟩, fun i hi => by match i, hi with | 0, _ => rfl | 1, _ => rfl | 2, _ => rfl | 3, _ => rfl⟩
 ·exact ⟨0, _, _, by decide, rfl, rfl, ⟨rfl, rfl⟩, fun i hi => by match i, hi with | 0, _ => rfl | 1, _ => rfl | 2, _ => rfl | 3, _ => rfl⟩
 ·exact ⟨5, _, _, by decide, rfl, rfl, ⟨rfl, rfl⟩, fun i hi => by match i, hi with | 0, _ => rfl | 1, _ => rfl | 2, _ => rfl⟩
 ·exact ⟨6, _, _, by decide, rfl, rfl, ⟨rfl, rfl⟩, fun i hi => by match i, hi with | 0, _ => rfl | 1, _ => rfl | 2, _ => rfl⟩
 ·exact ⟨7, _, _, by decide, rfl, rfl, ⟨rfl, rfl⟩, fun i hi => by match i, hi with | 0, _ => rfl | 1, _ => rfl⟩
 ·exact ⟨3, _, _, by decide, rfl, rfl, ⟨rfl, rfl⟩, fun i hi => by match i, hi with | 0, _ => rfl | 1, _ => rfl | 2, _ => rfl | 3, _ => rfl⟩
 ·exact ⟨8, _, _, by decide, rfl, rfl, ⟨rfl, rfl⟩, fun i hi => by match i, hi with | 0, _ => rfl | 1, _ => rfl | 2, _ => rfl⟩
 ·exact ⟨1, _, _, by decide, rfl, rfl, ⟨rfl, rfl⟩, fun i hi => by match i, hi with | 0, _ => rfl | 1, _ => rfl | 2, _ => rfl⟩
 ·exact ⟨2, _, _, by decide, rfl, rfl, ⟨rfl, rfl⟩, fun i hi => by match i, hi with | 0, _ => rfl | 1, _ => rfl | 2, _ => rfl | 3, _ => rfl⟩
 ·exact ⟨9, _, _, by decide, rfl, rfl, ⟨rfl, rfl⟩, fun i hi => by match i, hi with | 0, _ => rfl⟩
/-! ### sizes: by an operation a volume more at most, two ranges more in a list -/
def szV (n m : Nat) (vs : List PV) : Prop := vs.length ≤ n ∧ ∀ v ∈ vs, v.mp.length ≤ m
theorem szV.shV {n m : Nat} {vs : List PV} (h : szV n m vs) (hn : n ≤ 16777216) (hm : m ≤ 16777216) : shV vs := ⟨Nat.le_trans h.1 hn, fun v hv => Nat.le_trans (h.2 v hv) hm⟩
theorem szV.mono {n m n' m' : Nat} {vs : List PV} (h : szV n m vs) (hn : n ≤ n') (hm : m ≤ m') : szV n' m' vs := ⟨Nat.le_trans h.1 hn, fun v hv => Nat.le_trans (h.2 v hv) hm⟩
theorem szV.erase {n m : Nat} {vs : List PV} (h : szV n m vs) (k : Nat) : szV n m (vs.eraseIdx k) := ⟨Nat.le_trans (List.length_eraseIdx_le vs k) h.1, fun v hv => h.2 v (List.mem_of_mem_eraseIdx hv)⟩
theorem szV.set {n m : Nat} {vs : List PV} (h : szV n m vs) (k : Nat) {v : PV} (hv : v.mp.length ≤ m) : szV n m (vs.set k v) := ⟨by rw [List.length_set]; exact h.1, fun z hz => by
 rcases List.mem_or_eq_of_mem_set hz with q | q
 ·exact h.2 z q
 ·rw [q]; exact hv⟩
theorem szV.lay {n m : Nat} {vs : List PV} (h : szV n m vs) {v : PV} (hv : v.mp.length ≤ m) : szV (n + 1) m (layP vs v) := by
 refine ⟨?_, fun z hz => ?_⟩
 ·have := h.1
  unfold layP
  simp only [List.length_append, List.length_take, List.length_drop, List.length_singleton]
  omega
 ·unfold layP at hz
  simp only [List.mem_append, List.mem_singleton] at hz
  rcases hz with (q | q) | q
  ·exact h.2 z (List.mem_of_mem_take q)
  ·rw [q]; exact hv
  ·exact h.2 z (List.mem_of_mem_drop q)
theorem szV.vol {n m : Nat} {x : VW} (h : szV n m x.vs) (p : Int) : (volAt x p).mp.length ≤ m := by
 unfold volAt
 rw [List.getD_eq_getElem?_getD]
 by_cases hp : p.toNat < x.vs.length
 ·rw [List.getElem?_eq_getElem hp]
  exact h.2 _ (List.getElem_mem hp)
 ·rw [List.getElem?_eq_none (by omega)]
  exact Nat.zero_le _
theorem spl_len2 (rs ys : List Rg) (i j : Nat) (h : i ≤ j) : (spl rs i j ys).length ≤ rs.length + ys.length := by
 unfold spl
 simp only [List.length_append, List.length_take, List.length_drop]
 omega
theorem join_len (rs : List Rg) (r : Rg) : (joinP rs r).length ≤ rs.length + 2 := by
 unfold joinP
 split
 ·omega
 ·split
  ·exact Nat.le_trans (spl_len2 _ _ _ _ (Nat.le_refl _)) (by simp)
  ·exact Nat.le_trans (spl_len2 _ _ _ _ (by omega)) (by simp)
theorem cut_len (rs : List Rg) (r : Rg) : (cutP rs r).length ≤ rs.length + 2 := by
 unfold cutP
 split
 ·omega
 ·split
  ·omega
  ·refine Nat.le_trans (spl_len2 _ _ _ _ (by omega)) (Nat.add_le_add_left ?_ _)
   exact Nat.le_trans (List.length_filter_le _ _) (by simp)
theorem szV.dox {n m : Nat} {x : VW} (h : szV n m x.vs) (k : Nat) (o : OW) (pn po : Int) : szV (n + 1) (m + 2) (doX k x o pn po).vs := by
 have hm := h.mono (Nat.le_refl _) (show m ≤ m + 2 by omega)
 have h1 := hm.mono (show n ≤ n + 1 by omega) (Nat.le_refl _)
 have hv : ∀ p, (volAt x p).mp.length ≤ m + 2 := hm.vol
 have hv' : ∀ p, (volAt x p).mp.length ≤ m := h.vol
 unfold doX
 split
 ·exact hm.lay (v := nmd2 _ _ _) (Nat.zero_le _)
 ·exact hm.lay (v := nmd2 _ _ _) (hv po)
 ·exact hm.lay (v := nmd2 _ _ _) (hv po)
 ·exact h1.set _ (Nat.le_trans (cut_len _ _) (Nat.add_le_add_right (hv' pn) 2))
 ·exact (hm.erase _).lay (v := setNm _ _) (hv pn)
 ·exact h1.erase _
 ·exact h1.set _ (hv po)
 ·exact h1.set _ (Nat.le_trans (join_len _ _) (Nat.add_le_add_right (hv' pn) 2))
 ·exact h1.set _ (Nat.le_trans (cut_len _ _) (Nat.add_le_add_right (hv' pn) 2))
 ·exact h1.set _ (Nat.le_trans (join_len _ _) (Nat.add_le_add_right (hv' pn) 2))
 ·exact h1
/-! ### operations in their list -/
structure OpC (w : World) (b off : Nat) (o : OW) (a : Option Addr) (n c : Nat) : Prop where
 o0 : w.cell? ⟨b, off, none⟩ = some (.int .i64 o.k)
 o1 : w.cell? ⟨b, off + 1, none⟩ = some (.string o.nm)
 o2 : w.cell? ⟨b, off + 2, none⟩ = some (.string o.ot)
 o3 : w.cell? ⟨b, off + 3, none⟩ = some (.int .i64 o.fr)
 o4 : w.cell? ⟨b, off + 4, none⟩ = some (.int .i64 o.tt)
 o5 : w.cell? ⟨b, off + 5, none⟩ = some (.slice a n c)
structure okW (o : OW) : Prop where
 nm : o.nm.size ≤ 16777216
 ot : o.ot.size ≤ 16777216
 f0 : -9223372036854775808 ≤ o.fr
 t1 : o.tt ≤ 9223372036854775807
def RdA (B : Nat) (w : World) (z : Option Addr) (os : List (OW × Nat)) : Prop :=
 os = [] ∨ ∃ b off, z = some ⟨b, off, none⟩ ∧ b < B ∧ ∀ t (h : t < os.length), ∃ a c, OpC w b (off + t * 6) os[t].1 a os[t].2 c
theorem OpC.keep {w w' : World} {b off : Nat} {o : OW} {a : Option Addr} {n c : Nat} (h : OpC w b off o a n c) (hb : w'.heap[b]? = w.heap[b]?) : OpC w' b off o a n c :=
 ⟨(World.cell?_of_block (a := ⟨b, _, none⟩) hb).trans h.o0, (World.cell?_of_block (a := ⟨b, _, none⟩) hb).trans h.o1, (World.cell?_of_block (a := ⟨b, _, none⟩) hb).trans h.o2, (World.cell?_of_block (a := ⟨b, _, none⟩) hb).trans h.o3, (World.cell?_of_block (a := ⟨b, _, none⟩) hb).trans h.o4, (World.cell?_of_block (a := ⟨b, _, none⟩) hb).trans h.o5⟩
theorem RdA.below {B : Nat} {w w' : World} {z : Option Addr} {os : List (OW × Nat)} (h : RdA B w z os) (hb : Below B w w') : RdA B w' z os := by
 rcases h with e | ⟨b, off, rfl, hl, hc⟩
 ·exact .inl e
 ·exact .inr ⟨b, off, rfl, hl, fun t ht => by
   obtain ⟨a, c, h1⟩ := hc t ht
   exact ⟨a, c, h1.keep (hb.block b hl)⟩⟩
def allP : VW → List (OW × Nat) → Nat → VW × Int × Int
 | x, [], _ => (x, 0, 0)
 | x, (o, n) :: r, i => if tkE x o n = 0 then allP (tkX x o) r (i + 1) else (VW0, (i : Int), tkE x o n)
def runP : VW → List (OW × Nat) → VW
 | x, [] => x
 | x, (o, _) :: r => runP (tkX x o) r
theorem runP_snoc : ∀ (l : List (OW × Nat)) (x : VW) (o : OW × Nat), runP x (l ++ [o]) = tkX (runP x l) o.1
 | [], _, _ => rfl
 | _ :: l, _, o => runP_snoc l _ o
def goP (x : VW) (os : List (OW × Nat)) (i : Nat) : Prop := ∀ j (h : j < os.length), j < i → tkE (runP x (os.take j)) os[j].1 os[j].2 = 0
theorem allP_hit : ∀ (os : List (OW × Nat)) (x : VW) (k i : Nat) (hi : i < os.length), goP x os i → tkE (runP x (os.take i)) os[i].1 os[i].2 ≠ 0 → allP x os k = (VW0, ((k + i : Nat) : Int), tkE (runP x (os.take i)) os[i].1 os[i].2)
 | [], x, k, i, hi, _, _ => by simp at hi
 | (o, n) :: l, x, k, 0, hi, _, h => by unfold allP; rw [if_neg (by simpa [runP] using h)]; rfl
 | (o, n) :: l, x, k, i + 1, hi, h0, h => by
  have h00 : tkE x o n = 0 := h0 0 (by simp) (by omega)
  unfold allP
  rw [if_pos h00, allP_hit l (tkX x o) (k + 1) i (by simpa using hi) (fun j hj hji => h0 (j + 1) (by simpa using hj) (by omega)) (by exact h)]
  simp only [List.take_succ_cons, runP, List.getElem_cons_succ]
  rw [show k + 1 + i = k + (i + 1) by omega]
theorem allP_all : ∀ (os : List (OW × Nat)) (x : VW) (k : Nat), goP x os os.length → allP x os k = (runP x os, 0, 0)
 | [], x, k, _ => rfl
 | (o, n) :: l, x, k, h0 => by
  have h00 : tkE x o n = 0 := h0 0 (by simp) (by simp)
  unfold allP
  rw [if_pos h00, allP_all l (tkX x o) (k + 1) (fun j hj hji => h0 (j + 1) (by simpa using hj) (by simp; omega))]
  rfl
theorem sz_run : ∀ (os : List (OW × Nat)) (x : VW) (n m : Nat), szV n m x.vs → szV (n + os.length) (m + 2 * os.length) (runP x os).vs
 | [], _, _, _, h => h
 | o :: l, x, n, m, h => by
  have := sz_run l (tkX x o.1) (n + 1) (m + 2) (h.dox _ _ _ _)
  refine this.mono (by simp; omega) (by simp; omega)
end Go.Proofs.YtddddfankeepkaaGreatDoor
namespace Go.Proofs.YtddddfankeepkaaGreatDoor
open Go.RowKit
theorem results_row_tmp2 {P : Program} {fn : Func} {p u u2 : Tmp} {ty : TypeId} (h : fn.results = #[.cell p ty, .tmp u, .tmp u2]) (tmps : Array Value) (w : World) (g : Nat) (t : TypeId) (cs : Array Value) (fr : Nat × Nat) (d : TypeDesc) (x y : Value)
  (hp : tmps.getD p undef = .pointer (some ⟨g, 0, none⟩)) (hx : tmps.getD u undef = x) (hy : tmps.getD u2 undef = y) (hg : w.heap[g]? = some (.cells cs t fr))
  (hu : P.underlying ty = some d) (hd : (match d with | .struct _ | .array _ _ => true | _ => false) = true) (hi : (P.info? ty).map (·.size) = some cs.size) :
  (results fn tmps).run P w = .ok (.tuple #[.agg cs, x, y]) w := by
 have e : (results fn tmps).run P w = ((asAddr (tmps.getD p undef)).run P w).andThen fun a w₁ => ((loadVar ty a).run P w₁).andThen fun v w₂ => .ok (.tuple #[v, tmps.getD u undef, tmps.getD u2 undef]) w₂ := by
  simp only [results, h]
  simp [Sem.run_bind, Result.andThen]
 rw [e, hp, hx, hy]
 simp [asAddr, run_loadVar_row w g t ty cs fr d hg hu hd hi]
theorem OwV.mono {A B : Nat} {w : World} {u : Value} {vs : List PV} {us : List Value} (h : OwV B w u vs us) (hA : A ≤ B) : OwV A w u vs us :=
 ⟨h.len, own_mono h.row hA, fun i hi => own_mono (h.dat i hi) hA⟩
def AllQ (w : World) (r : VW × Int × Int) (e : Ending) (w' : World) : Prop := ∃ a' c' us, e = .returned (.tuple #[viewA r.1 a' c', .int .i64 r.2.1, .int .i64 r.2.2]) ∧ OwV w.heap.size w' (.slice a' r.1.vs.length c') r.1.vs us ∧ Ap us ∧ Below w.heap.size w w'
structure AlS (w wr : World) (Q C D R : Nat) (x : VW) (os : List (OW × Nat)) (i : Nat) : Prop where
 dr : ∃ u us o dv pn po, DrV C wr D (runP x (os.take i)) u us o dv pn po
 ru : RuK wr R
 rb : VwB wr Q VW0 (.slice none 0 0)
 bel : Below w.heap.size w wr
 hC : C ≤ wr.heap.size
 hQ : Q < C
 hw : w.heap.size ≤ Q
 go : goP x os i
theorem alS_step {w wr : World} {Q C D R : Nat} {x : VW} {os : List (OW × Nat)} {i : Nat} {z : Option Addr} (hl : szV 8388607 8388608 x.vs) (hn : os.length ≤ 4194304) (hG : GT w) (hok : ∀ o ∈ os, okW o.1) (hR : RdA w.heap.size w z os) (hi : i < os.length) (hS : AlS w wr Q C D R x os i) :
  ∃ b off a c, z = some ⟨b, off, none⟩ ∧ OpC wr b (off + i * 6) os[i].1 a os[i].2 c ∧ ∀ W', W' = wr.alloc (.cells #[.int .i64 os[i].1.k, .string os[i].1.nm, .string os[i].1.ot, .int .i64 os[i].1.fr, .int .i64 os[i].1.tt, .slice a os[i].2 c] 42) →
   Calls Tryz.prog 32 #[.pointer (some ⟨D, 0, none⟩), opA os[i].1 a os[i].2 c, .slice (some ⟨R, 0, none⟩) 12 12] W' fun e w7 => ∃ z7 : Int, e = .returned (.int .i64 z7) ∧ VwB w7 Q VW0 (.slice none 0 0) ∧ (z7 = 0 → AlS w w7 Q C D R x os (i + 1)) ∧
    (z7 ≠ 0 → ∀ y, y = put4 w7 Q VW0 (.slice none 0 0) → VwB y Q VW0 (.slice none 0 0) ∧ AllQ w (allP x os 0) (.returned (.tuple #[viewA VW0 none 0, .int .i64 (i : Int), .int .i64 z7])) y) := by
 obtain ⟨b, off, rfl, hb, hc⟩ := (hR.below hS.bel).resolve_left (fun e => by rw [e] at hi; simp at hi)
 obtain ⟨a, c, hO⟩ := hc i hi
 refine ⟨b, off, a, c, rfl, hO, ?_⟩
 rintro W' rfl
 obtain ⟨u, us, o, dv, pn, po, hD⟩ := hS.dr
 have b1 := below1 wr (.cells #[.int .i64 os[i].1.k, .string os[i].1.nm, .string os[i].1.ot, .int .i64 os[i].1.fr, .int .i64 os[i].1.tt, .slice a os[i].2 c] 42)
 generalize wr.alloc (.cells #[.int .i64 os[i].1.k, .string os[i].1.nm, .string os[i].1.ot, .int .i64 os[i].1.fr, .int .i64 os[i].1.tt, .slice a os[i].2 c] 42) = W' at *
 have hsz := sz_run (os.take i) x _ _ hl
 have hti : (os.take i).length ≤ 4194304 := by rw [List.length_take]; omega
 have hk := hok os[i] (List.getElem_mem hi)
 have hrw : RuK W' R := hS.ru.kept fun b cs t fr hb _ => b1.block b (Array.getElem?_eq_some_iff.1 hb).1
 have hGr : GT W' := (hG.next hS.bel).next b1
 refine (take_any C D R _ u us o dv pn po os[i].1 a os[i].2 c W' (hD.next b1) hGr hrw.ru (hsz.shV (by omega) (by omega)) (Nat.le_trans hsz.1 (by omega)) (Nat.le_trans hS.hC b1.size) hk.nm hk.ot hk.f0 hk.t1).mono ?_
 rintro e w7 ⟨rfl, hB, hd⟩
 have hC := hS.hC
 have hQ := hS.hQ
 have hw := hS.hw
 have hbt : Below C wr w7 := (b1.mono hC).trans hB.toBelow
 have hrb : VwB w7 Q VW0 (.slice none 0 0) := hS.rb.keep (hbt.block Q hQ)
 have hbel : Below w.heap.size w w7 := hS.bel.trans (hbt.mono (by omega))
 refine ⟨_, rfl, hrb, fun h0 => ?_, fun h0 y hy => ?_⟩
 ·obtain ⟨u', us', o', dv', pn', po', hd'⟩ := hd h0
  refine ⟨⟨u', us', o', dv', pn', po', ?_⟩, hrw.belk hB, hrb, hbel, Nat.le_trans hC hbt.size, hQ, hw, fun j hj hji => ?_⟩
  ·rw [List.take_succ_eq_append_getElem hi, runP_snoc]
   exact hd'
  ·by_cases e : j = i
   ·subst e; exact h0
   ·exact hS.go j hj (by omega)
 ·have hp := allP_hit os x 0 i hi hS.go h0
  rw [hp, hy]
  refine ⟨hrb.put4, none, 0, [], by simp, ⟨rfl, ⟨rfl, .inl ⟨rfl, rfl⟩⟩, fun i hi => by simp [VW0] at hi⟩, fun i j hi => by simp at hi, hbel.trans ((but_put4 w7 Q VW0 (.slice none 0 0)).below hbel.size (fun g hg e => by omega))⟩
theorem alS_end {w wr : World} {Q C D R : Nat} {x : VW} {os : List (OW × Nat)} (hS : AlS w wr Q C D R x os os.length) :
  ∃ a' c', VwB wr Q VW0 (.slice none 0 0) ∧ (∃ o dv pn po, DrB wr D (runP x os) (.slice a' (runP x os).vs.length c') o dv pn po) ∧ ∀ y, y = put4 wr Q (runP x os) (.slice a' (runP x os).vs.length c') → VwB y Q (runP x os) (.slice a' (runP x os).vs.length c') ∧ AllQ w (allP x os 0) (.returned (.tuple #[viewA (runP x os) a' c', .int .i64 0, .int .i64 0])) y := by
 obtain ⟨u, us, o, dv, pn, po, hD⟩ := hS.dr
 rw [List.take_length] at hD
 obtain ⟨a', c', rfl, _, _⟩ := hD.ow.rd
 have hC := hS.hC
 have hQ := hS.hQ
 have hw := hS.hw
 refine ⟨a', c', hS.rb, ⟨_, _, _, _, hD.dr⟩, ?_⟩
 rintro y rfl
 have bt := but_put4 wr Q (runP x os) (.slice a' (runP x os).vs.length c')
 rw [allP_all os x 0 hS.go]
 exact ⟨hS.rb.put4, a', c', us, rfl, (hD.ow.keep fun g h1 h2 => bt.block g h2 (by omega)).mono (by omega), hD.ap, hS.bel.trans (bt.below hS.bel.size (fun g hg e => by omega))⟩
theorem alS_start {w W2 W3 : World} {Q C D R : Nat} {x : VW} {os : List (OW × Nat)} {u : Value} {us : List Value} {o : OW} {dv : Value} {pn po : Int} (hD : DrV C W2 D x u us o dv pn po) (hb : Below W2.heap.size W2 W3) (hr : RuK W3 R) (hQ : VwB W2 Q VW0 (.slice none 0 0)) (hB : Below w.heap.size w W2) (hQC : Q < C) (hw : w.heap.size ≤ Q) (hC : C ≤ W2.heap.size) : AlS w W3 Q C D R x os 0 :=
 ⟨⟨u, us, o, dv, pn, po, hD.next hb⟩, hr, hQ.keep (hb.block Q hQ.lt), hB.trans (hb.mono hB.size), Nat.le_trans hC hb.size, hQC, hw, fun j _ h => by omega⟩
end Go.Proofs.YtddddfankeepkaaGreatDoor
namespace Go.Proofs.YtddddfankeepkaaGreatDoor
open Go.RowKit
set_option maxRecDepth 100000 in
set_option maxHeartbeats 4000000 in
theorem All_any (x : VW) (a : Option Addr) (c0 : Nat) (os : List (OW × Nat)) (z : Option Addr) (zc : Nat) (w : World) (hl : szV 8388607 8388608 x.vs) (hR : RdV w.heap.size w a x.vs) (ha : a = none → c0 = 0) (hn : os.length ≤ 4194304) (hG : GT w) (hok : ∀ o ∈ os, okW o.1) (hO : RdA w.heap.size w z os) :
  Calls Tryz.prog 9 #[viewA x a c0, .slice z os.length zc] w fun e w' => AllQ w (allP x os 0) e w' := by
 obtain ⟨P, hP⟩ : ∃ P, P = w.heap.size := ⟨_, rfl⟩
 obtain ⟨Q, hQ⟩ : ∃ Q, Q = w.heap.size + 1 := ⟨_, rfl⟩
 obtain ⟨C, hC⟩ : ∃ C, C = w.heap.size + 2 := ⟨_, rfl⟩
 obtain ⟨W0, hW0⟩ : ∃ W0, W0 = w.alloc (.cells #[.int .i64 x.cp, .int .i64 x.fr, .int .i64 x.nx, .slice a x.vs.length c0] 24) := ⟨_, rfl⟩
 obtain ⟨W1, hW1⟩ : ∃ W1, W1 = W0.alloc (.cells #[.int .i64 0, .int .i64 0, .int .i64 0, .slice none 0 0] 24) := ⟨_, rfl⟩
 have b0 : Below w.heap.size w W0 := by rw [hW0]; exact below1 _ _
 have s0 : W0.heap.size = w.heap.size + 1 := by rw [hW0]; exact World.size_alloc _ _
 have b1 : Below W0.heap.size W0 W1 := by rw [hW1]; exact below1 _ _
 have s1 : W1.heap.size = C := by rw [hW1, World.size_alloc]; omega
 have e0 : w.heap.size = P := hP.symm
 have e1 : W0.heap.size = Q := by omega
 have e2 : w.heap.size + 1 = Q := by omega
 have hV : VwB W1 P x (.slice a x.vs.length c0) := by
  unfold VwB
  rw [b1.block P (by omega), hP, hW0]
  exact heap_new _ _
 have hZ : VwB W1 Q VW0 (.slice none 0 0) := by
  unfold VwB
  rw [← e1, hW1]
  exact heap_new _ _
 have b01 : Below w.heap.size w W1 := b0.trans (b1.mono b0.size)
 have HDr := hid (draftOf_any x a c0 W1 (hl.shV (by omega) (by omega)) ((hR.below b01).mono b01.size) ha)
 have HSt : Hid (∀ W2 W3 R D u us o dv pn po, DrV W1.heap.size W2 D x u us o dv pn po → Below W1.heap.size W1 W2 → Below W2.heap.size W2 W3 → RuK W3 R → AlS w W3 Q C D R x os 0) := fun W2 W3 R D u us o dv pn po h1 h2 h3 h4 =>
  alS_start (by rw [← s1]; exact h1) h3 h4 (hZ.keep (h2.block Q hZ.lt)) (b01.trans (h2.mono b01.size)) (by omega) (by omega) (by rw [← s1]; exact h2.size)
 have HSTEP := hid (fun (wr : World) (D R i : Nat) (hi : i < os.length) (hS : AlS w wr Q C D R x os i) => alS_step (z := z) hl hn hG hok hO hi hS)
 have HEND := hid (fun (wr : World) (D R : Nat) (hS : AlS w wr Q C D R x os os.length) => alS_end hS)
 obtain ⟨⟨v0, v1, v2, v3⟩, _⟩ := hV.cs
 have HW0 := hid hW0
 have HW1 := hid hW1
 have HE0 := hid e0
 have HE1 := hid e2
 obtain ⟨n, hnn⟩ : ∃ n, n = os.length := ⟨_, rfl⟩
 have HNN := hid hnn
 have HN16 := hid hn
 rw [← hnn]
 clear hP hQ hC hW0 hW1 b0 s0 b1 s1 e0 e1 e2 hV hZ b01 hl hR ha hG hok hO hnn hn
 dsimp only [viewA] at *
 go_enter Tryz.func9, Tryz.ntmps9
 go_wp2_with fail
 rw [← HW0.out, ← HW1.out, HE1.out, HE0.out]
 refine HDr.out.mono ?_
 rintro e W2 ⟨D, u, us, rfl, hD, hb2⟩
 have HD := hid hD
 have HB2 := hid hb2
 clear hD hb2 HDr v0 v1 v2 v3
 go_wp2_with fail
 refine (rulesK_any W2).mono ?_
 rintro e W3 ⟨R, rfl, hr, hb3⟩
 have HI := hid (HSt.out _ _ _ _ _ _ _ _ _ _ HD.out HB2.out hb3 hr)
 have HSTEP2 := hid (fun wr i hi hS => HSTEP.out wr D R i hi hS)
 have HEND2 := hid (fun wr hS => HEND.out wr D R hS)
 clear hr hb3 HD HB2 HSt HSTEP HEND HW0 HW1 HE0 HE1
 go_wp2_with fail
 go_loopw [17] (fun iv wr => ∃ i : Nat, i ≤ n ∧ iv = .int .i64 (i : Int) ∧ AlS w wr Q C D R x os i) (fun iv _ => n - (intOf iv).toNat)
 case atStart => exact ⟨0, Nat.zero_le _, rfl, HI.out⟩
 case round =>
  obtain ⟨i, hin, rfl, hS⟩ := hrel
  by_cases hlt : i < n
  ·obtain ⟨b, off, oa, oc, rfl, ⟨k0, k1, k2, k3, k4, k5⟩, hC⟩ := HSTEP2.out wr i (by have := HNN.out; omega) hS
   have HC := hid hC
   have hl1 : (i : Int) < (n : Int) := by omega
   have hln : i < os.length := by have := HNN.out; omega
   have HLT := hid hlt
   have hb16 : n ≤ 4194304 := by have := HN16.out; have := HNN.out; omega
   clear hC hS HSTEP2 HEND2 HI
   generalize os[i].1 = o at *
   generalize os[i].2 = dn at *
   go_wp2_with fail
   refine (HC.out _ rfl).mono ?_
   rintro e w7 ⟨z7, rfl, hv, h0, h9⟩
   obtain ⟨⟨p0, p1, p2, p3⟩, pf⟩ := hv.cs
   clear hv k0 k1 k2 k3 k4 k5 HC
   by_cases hz : z7 = 0
   ·subst hz
    have HS := hid (h0 rfl)
    clear h0 h9
    go_wp2
    go_roundw
    case rel => exact ⟨i + 1, by have := HLT.out; omega, by go_num, HS.out⟩
    case measure => have := HLT.out; simp [intOf]; omega
   ·have H9 := hid (h9 hz)
    have hz' : (z7 != 0) = true := by simpa using hz
    clear h0 h9 hz
    go_wp2_with fail
    have HFin := H9.out _ rfl
    exact bodyPost_ret (results_row_tmp2 rfl _ _ Q 24 _ (0, 0) _ (.int .i64 (i : Int)) (.int .i64 z7) rfl rfl rfl HFin.1 Tryz.underlying24 rfl (by kernel_rfl)) rfl HFin.2
  ·have ein : i = n := by omega
   subst ein
   obtain ⟨a', c', t1, ⟨o, dv, pn, po, t2⟩, t3⟩ := HEND2.out wr (by rw [← HNN.out]; exact hS)
   have hl1 : ¬ (i : Int) < (i : Int) := by omega
   clear hS HSTEP2 HEND2 HI
   obtain ⟨q0, q1, q2, q3, _⟩ := t2.cs
   obtain ⟨_, qf⟩ := t1.cs
   obtain ⟨⟨p0, p1, p2, p3⟩, pf⟩ := t1.cs
   have T3 := hid t3
   clear t1 t2 t3
   go_wp2_with fail
   have HFin := T3.out _ rfl
   exact bodyPost_ret (results_row_tmp2 rfl _ _ Q 24 _ (0, 0) _ (.int .i64 0) (.int .i64 0) rfl rfl rfl HFin.1 Tryz.underlying24 rfl (by kernel_rfl)) rfl HFin.2
end Go.Proofs.YtddddfankeepkaaGreatDoor
namespace Go.Proofs.YtddddfankeepkaaGreatDoor
open Go.RowKit
def DoV (w : World) (r : VW × Int × Int) (e : Ending) (w' : World) : Prop := ∃ a' c' us, e = .returned (.tuple #[viewA r.1 a' c', .int .i64 r.2.2]) ∧ OwV w.heap.size w' (.slice a' r.1.vs.length c') r.1.vs us ∧ Ap us ∧ Below w.heap.size w w'
set_option maxRecDepth 100000 in
set_option maxHeartbeats 4000000 in
theorem Do_any (x : VW) (a : Option Addr) (c0 : Nat) (o : OW) (da : Option Addr) (dn dc : Nat) (w : World) (hl : szV 8388607 8388608 x.vs) (hR : RdV w.heap.size w a x.vs) (ha : a = none → c0 = 0) (hG : GT w) (hok : okW o) :
  Calls Tryz.prog 17 #[viewA x a c0, opA o da dn dc] w fun e w' => DoV w (allP x [(o, dn)] 0) e w' := by
 obtain ⟨Q, hQ⟩ : ∃ Q, Q = w.heap.size + 1 + 1 := ⟨_, rfl⟩
 obtain ⟨S, hS⟩ : ∃ S, S = w.heap.size + 1 + 1 + 1 := ⟨_, rfl⟩
 obtain ⟨W1, hW1⟩ : ∃ W1, W1 = w.alloc (.cells #[.int .i64 x.cp, .int .i64 x.fr, .int .i64 x.nx, .slice a x.vs.length c0] 24) := ⟨_, rfl⟩
 obtain ⟨W2, hW2⟩ : ∃ W2, W2 = W1.alloc (.cells #[.int .i64 o.k, .string o.nm, .string o.ot, .int .i64 o.fr, .int .i64 o.tt, .slice da dn dc] 42) := ⟨_, rfl⟩
 obtain ⟨W3, hW3⟩ : ∃ W3, W3 = W2.alloc (.cells #[.int .i64 0, .int .i64 0, .int .i64 0, .slice none 0 0] 24) := ⟨_, rfl⟩
 obtain ⟨W4, hW4⟩ : ∃ W4, W4 = W3.alloc (.cells #[.int .i64 o.k, .string o.nm, .string o.ot, .int .i64 o.fr, .int .i64 o.tt, .slice da dn dc] 42) := ⟨_, rfl⟩
 have b1 : Below w.heap.size w W1 := by rw [hW1]; exact below1 _ _
 have s1 : W1.heap.size = w.heap.size + 1 := by rw [hW1]; exact World.size_alloc _ _
 have b2 : Below W1.heap.size W1 W2 := by rw [hW2]; exact below1 _ _
 have s2 : W2.heap.size = w.heap.size + 1 + 1 := by rw [hW2, World.size_alloc, s1]
 have b3 : Below W2.heap.size W2 W3 := by rw [hW3]; exact below1 _ _
 have s3 : W3.heap.size = w.heap.size + 1 + 1 + 1 := by rw [hW3, World.size_alloc, s2]
 have b4 : Below W3.heap.size W3 W4 := by rw [hW4]; exact below1 _ _
 have s4 : W4.heap.size = w.heap.size + 1 + 1 + 1 + 1 := by rw [hW4, World.size_alloc, s3]
 have bw : Below w.heap.size w W4 := ((b1.trans (b2.mono (by omega))).trans (b3.mono (by omega))).trans (b4.mono (by omega))
 have hZ : VwB W4 Q VW0 (.slice none 0 0) := by
  unfold VwB
  rw [b4.block Q (by omega), hQ, ← s2, hW3]
  exact heap_new _ _
 have hSb : W4.heap[S]? = some (.cells #[.int .i64 o.k, .string o.nm, .string o.ot, .int .i64 o.fr, .int .i64 o.tt, .slice da dn dc] 42 (0, 0)) := by
  rw [hS, ← s3, hW4]
  exact heap_new _ _
 have hO : RdA W4.heap.size W4 (some ⟨S, 0, none⟩) [(o, dn)] := .inr ⟨S, 0, rfl, by omega, fun t ht => by
  have e : t = 0 := by simpa using ht
  subst e
  exact ⟨da, dc, by constructor <;> simp [World.cell?, hSb]⟩⟩
 have HA := hid (All_any x a c0 [(o, dn)] (some ⟨S, 0, none⟩) 1 W4 hl ((hR.below bw).mono bw.size) ha (by simp) (hG.next bw) (fun p hp => by
  have e : p = (o, dn) := by simpa using hp
  rw [e]; exact hok) hO)
 generalize allP x [(o, dn)] 0 = r at *
 obtain ⟨y, iz, er⟩ := r
 have HF : Hid (∀ w5 e, AllQ W4 (y, iz, er) e w5 → ∃ a' c', e = .returned (.tuple #[viewA y a' c', .int .i64 iz, .int .i64 er]) ∧ ∀ V w6, V = w5.heap.size → w6 = w5.alloc (.cells #[.int .i64 y.cp, .int .i64 y.fr, .int .i64 y.nx, .slice a' y.vs.length c'] 24) →
   VwB w6 V y (.slice a' y.vs.length c') ∧ VwB w6 Q VW0 (.slice none 0 0) ∧ ∀ w7, w7 = put4 w6 Q y (.slice a' y.vs.length c') → VwB w7 Q y (.slice a' y.vs.length c') ∧ DoV w (y, iz, er) (.returned (.tuple #[viewA y a' c', .int .i64 er])) w7) := by
  refine hid ?_
  rintro w5 e ⟨a', c', us, rfl, how, hap, hb5⟩
  refine ⟨a', c', rfl, ?_⟩
  rintro V w6 rfl rfl
  have b6 := below1 w5 (.cells #[.int .i64 y.cp, .int .i64 y.fr, .int .i64 y.nx, .slice a' y.vs.length c'] 24)
  have h6 := heap_new w5 (.cells #[.int .i64 y.cp, .int .i64 y.fr, .int .i64 y.nx, .slice a' y.vs.length c'] 24)
  generalize w5.alloc (.cells #[.int .i64 y.cp, .int .i64 y.fr, .int .i64 y.nx, .slice a' y.vs.length c'] 24) = w6 at *
  have hz6 : VwB w6 Q VW0 (.slice none 0 0) := hZ.keep ((b6.block Q (by have := hb5.size; omega)).trans (hb5.block Q (by omega)))
  refine ⟨h6, hz6, ?_⟩
  rintro w7 rfl
  have bt := but_put4 w6 Q y (.slice a' y.vs.length c')
  have hb6 : Below w.heap.size w w6 := (bw.trans (hb5.mono bw.size)).trans (b6.mono (by have := hb5.size; omega))
  exact ⟨hz6.put4, a', c', us, rfl, ((how.next b6).keep fun g h1 h2 => bt.block g h2 (by omega)).mono (by omega), hap, hb6.trans (bt.below hb6.size (fun g hg e => by omega))⟩
 have HQ := hid hQ.symm
 have HS := hid hS.symm
 have HW1 := hid hW1
 have HW2 := hid hW2
 have HW3 := hid hW3
 have HW4 := hid hW4
 clear hQ hS hW1 hW2 hW3 hW4 b1 s1 b2 s2 b3 s3 b4 s4 bw hZ hSb hO hl hR ha hG hok
 dsimp only [viewA, opA] at *
 go_enter Tryz.func17, Tryz.ntmps17
 go_wp2_with fail
 rw [← HW1.out, ← HW2.out, ← HW3.out, ← HW4.out, HS.out, HQ.out]
 refine HA.out.mono ?_
 intro e w5 hA
 obtain ⟨a', c', rfl, hfin⟩ := HF.out w5 e hA
 have hq6 := (hfin _ _ rfl rfl).2.1
 obtain ⟨⟨p0, p1, p2, p3⟩, pf⟩ := hq6.cs
 have pf0 := pf 0
 have pf1 := pf 1
 have pf2 := pf 2
 have pf3 := pf 3
 have HFI := hid hfin
 clear hq6 pf
 clear hfin hA HF HA HW1 HW2 HW3 HW4 HS HQ
 dsimp only [viewA] at *
 go_wp2_with fail
 have HFin := (HFI.out _ _ rfl rfl).2.2 _ rfl
 exact bodyPost_ret (results_row_tmp rfl _ _ Q 24 _ (0, 0) _ (.int .i64 er) rfl rfl HFin.1 Tryz.underlying24 rfl (by kernel_rfl)) rfl HFin.2
end Go.Proofs.YtddddfankeepkaaGreatDoor
