import Derived.Test.YtddddfankeepkaaGreatDoorE20
import Derived.Test.YtddddfankeepkaaGreatDoorE15
import Derived.Laws.EntriesVeiled
import Derived.Deep.QuietTactic
import Derived.BigQuiet
namespace Go.Proofs.YtddddfankeepkaaGreatDoor
open Go.RowKit
def tkE (x : VW) (o : OW) (dn : Nat) : Int := if fmE o dn = 0 then firstE (lksE o.k.toNat x o (plcF x.vs o.nm 0) (plcF x.vs o.ot 0)) else fmE o dn
def tkX (x : VW) (o : OW) : VW := doX o.k.toNat x o (plcF x.vs o.nm 0) (plcF x.vs o.ot 0)
def TkQ (B : Nat) (w : World) (D : Nat) (x : VW) (o : OW) (dn : Nat) (e : Ending) (w' : World) : Prop := e = .returned (.int .i64 (tkE x o dn)) ∧ BelK B w w' ∧ (tkE x o dn = 0 → ∃ u us o' dv pn po, DrV B w' D (tkX x o) u us o' dv pn po)
theorem look_run (f : Nat) (hf : isLook f) : ∀ (gs : Array Value) (u : World), Sem.run Tryz.prog (callFunc f gs) u = .ok (.enter f gs) u := by
 unfold isLook at hf
 simp only [List.mem_cons, List.not_mem_nil, or_false] at hf
 rcases hf with rfl | rfl | rfl | rfl | rfl | rfl | rfl | rfl | rfl | rfl | rfl | rfl | rfl <;> intro gs u <;> kernel_rfl
theorem do_run (k : Nat) (hk1 : 1 ≤ k) (hk2 : k ≤ 11) : ∀ (gs : Array Value) (u : World), Sem.run Tryz.prog (callFunc (dof k) gs) u = .ok (.enter (dof k) gs) u := by
 rcases (show k = 1 ∨ k = 2 ∨ k = 3 ∨ k = 4 ∨ k = 5 ∨ k = 6 ∨ k = 7 ∨ k = 8 ∨ k = 9 ∨ k = 10 ∨ k = 11 by omega) with rfl | rfl | rfl | rfl | rfl | rfl | rfl | rfl | rfl | rfl | rfl <;> intro gs u <;> kernel_rfl
theorem firstE_hit : ∀ (l : List Int) (i : Nat) (hi : i < l.length), (∀ j (hj : j < i), l[j]'(by omega) = 0) → l[i] ≠ 0 → firstE l = l[i]
 | [], i, hi, _, _ => by simp at hi
 | e :: l, 0, _, _, h => by unfold firstE; rw [if_neg (by simpa using h)]; rfl
 | e :: l, i + 1, hi, h0, h => by
  have he : e = 0 := h0 0 (by omega)
  unfold firstE
  rw [if_pos he]
  exact firstE_hit l i (by simpa using hi) (fun j hj => by simpa using h0 (j + 1) (by omega)) (by simpa using h)
theorem firstE_all : ∀ (l : List Int), (∀ j (hj : j < l.length), l[j] = 0) → firstE l = 0
 | [], _ => rfl
 | e :: l, h => by
  have he : e = 0 := h 0 (by simp)
  unfold firstE
  rw [if_pos he]
  exact firstE_all l (fun j hj => h (j + 1) (by simpa using hj))
theorem fm_kind {o : OW} {dn : Nat} (h : fmE o dn = 0) : ∃ k : Nat, 1 ≤ k ∧ k ≤ 11 ∧ o.k = (k : Int) := by
 unfold fmE at h
 by_cases hk : o.k < 1 ∨ 11 < o.k
 ·have e : ckO o.k o.nm o.ot o.fr o.tt dn = 100 := by unfold ckO; rw [if_pos hk]
  rw [e] at h
  simp at h
 ·exact ⟨o.k.toNat, by omega, by omega, by omega⟩
theorem do_needs (k : Nat) (hk1 : 1 ≤ k) (hk2 : k ≤ 11) (x : VW) (o : OW) (pn po : Int) (hpn : PlO x pn) (hpo : PlO x po) (h0 : ∀ j (hj : j < (lks k).length), lkE ((lks k)[j]'hj) x o pn po = 0) : (4 ≤ k → k ≤ 10 → ∃ i : Nat, i < x.vs.length ∧ pn = (i : Int)) ∧ (k = 2 ∨ k = 3 ∨ k = 7 → ∃ i : Nat, i < x.vs.length ∧ po = (i : Int)) := by
 have hN : lkE 55 x o pn po = 0 → ∃ q : Nat, q < x.vs.length ∧ pn = (q : Int) := fun h => by
  have := (unl_zero (by decide)).1 h
  rcases hpn with e | e
  ·rw [e] at this; simp at this
  ·exact e
 have hO : lkE 51 x o pn po = 0 → ∃ q : Nat, q < x.vs.length ∧ po = (q : Int) := fun h => by
  have := (unl_zero (by decide)).1 h
  rcases hpo with e | e
  ·rw [e] at this; simp at this
  ·exact e
 rcases (show k = 1 ∨ k = 2 ∨ k = 3 ∨ k = 4 ∨ k = 5 ∨ k = 6 ∨ k = 7 ∨ k = 8 ∨ k = 9 ∨ k = 10 ∨ k = 11 by omega) with rfl | rfl | rfl | rfl | rfl | rfl | rfl | rfl | rfl | rfl | rfl
 ·exact ⟨fun h => by omega, fun h => by omega⟩
 ·exact ⟨fun h => by omega, fun _ => hO (h0 0 (by decide))⟩
 ·exact ⟨fun h => by omega, fun _ => hO (h0 0 (by decide))⟩
 ·exact ⟨fun _ _ => hN (h0 0 (by decide)), fun h => by omega⟩
 ·exact ⟨fun _ _ => hN (h0 0 (by decide)), fun h => by omega⟩
 ·exact ⟨fun _ _ => hN (h0 0 (by decide)), fun h => by omega⟩
 ·exact ⟨fun _ _ => hN (h0 0 (by decide)), fun _ => hO (h0 1 (by decide))⟩
 ·exact ⟨fun _ _ => hN (h0 0 (by decide)), fun h => by omega⟩
 ·exact ⟨fun _ _ => hN (h0 0 (by decide)), fun h => by omega⟩
 ·exact ⟨fun _ _ => hN (h0 0 (by decide)), fun h => by omega⟩
 ·exact ⟨fun h h2 => by omega, fun h => by omega⟩
theorem DrB.setO {w4 : World} {D : Nat} {x : VW} {u : Value} {o' o : OW} {dv' dv : Value} {pn' po' pn po : Int} (h : DrB w4 D x u o' dv' pn' po') : DrB ((((((((w4.setCell ⟨D, 4, none⟩ (.int .i64 o.k)).setCell ⟨D, 5, none⟩ (.string o.nm)).setCell ⟨D, 6, none⟩ (.string o.ot)).setCell ⟨D, 7, none⟩ (.int .i64 o.fr)).setCell ⟨D, 8, none⟩ (.int .i64 o.tt)).setCell ⟨D, 9, none⟩ dv).setCell ⟨D, 10, none⟩ (.int .i64 pn)).setCell ⟨D, 11, none⟩ (.int .i64 po)) D x u o dv pn po := by
 unfold DrB at *
 simp [World.setCell, Array.getElem?_modify, h]
set_option maxRecDepth 100000 in
set_option maxHeartbeats 8000000 in
theorem take_any (B D R : Nat) (x : VW) (u : Value) (us : List Value) (o0 : OW) (dv0 : Value) (pn0 po0 : Int) (o : OW) (da : Option Addr) (dn dc : Nat) (w : World) (H : DrV B w D x u us o0 dv0 pn0 po0) (hG : GT w) (hRu : RuB w R) (hl : shV x.vs) (hl2 : x.vs.length ≤ 16777215) (hB : B ≤ w.heap.size) (hnm : o.nm.size ≤ 16777216) (hot : o.ot.size ≤ 16777216) (hf : -9223372036854775808 ≤ o.fr) (ht : o.tt ≤ 9223372036854775807) :
  Calls Tryz.prog 32 #[.pointer (some ⟨D, 0, none⟩), opA o da dn dc, .slice (some ⟨R, 0, none⟩) 12 12] w fun e w' => TkQ B w D x o dn e w' := by
 obtain ⟨P, hP⟩ : ∃ P, P = w.heap.size := ⟨_, rfl⟩
 obtain ⟨W1, hW1⟩ : ∃ W1, W1 = w.alloc (.cells #[.int .i64 o.k, .string o.nm, .string o.ot, .int .i64 o.fr, .int .i64 o.tt, .slice da dn dc] 42) := ⟨_, rfl⟩
 have b1 : Below w.heap.size w W1 := by rw [hW1]; exact below1 _ _
 have hP1 : W1.heap[P]? = some (.cells #[.int .i64 o.k, .string o.nm, .string o.ot, .int .i64 o.fr, .int .i64 o.tt, .slice da dn dc] 42 (0, 0)) := by rw [hW1, hP]; exact heap_new _ _
 have hPl : P < W1.heap.size := (Array.getElem?_eq_some_iff.1 hP1).1
 have HFm := hid (formOf75_any o da dn dc W1 (hG.next b1) hnm hot hf ht)
 have cells : ∀ y : World, y.heap[P]? = W1.heap[P]? → y.cell? ⟨P, 0, none⟩ = some (.int .i64 o.k) ∧ y.cell? ⟨P, 1, none⟩ = some (.string o.nm) ∧ y.cell? ⟨P, 2, none⟩ = some (.string o.ot) ∧ y.cell? ⟨P, 3, none⟩ = some (.int .i64 o.fr) ∧ y.cell? ⟨P, 4, none⟩ = some (.int .i64 o.tt) ∧ y.cell? ⟨P, 5, none⟩ = some (.slice da dn dc) := fun y hy => by
  rw [hP1] at hy
  simp [World.cell?, hy]
 obtain ⟨c0, c1, c2, c3, c4, c5⟩ := cells W1 rfl
 have HW1 := hid hW1
 have HP := hid hP
 by_cases hfm : fmE o dn = 0
 ·have hE : tkE x o dn = firstE (lksE o.k.toNat x o (plcF x.vs o.nm 0) (plcF x.vs o.ot 0)) := by unfold tkE; rw [if_pos hfm]
  obtain ⟨k, hk1, hk2, hok⟩ := fm_kind hfm
  have hkn : o.k.toNat = k := by omega
  rw [hfm] at HFm
  have hX : tkX x o = doX k x o (plcF x.vs o.nm 0) (plcF x.vs o.ot 0) := by unfold tkX; rw [hkn]
  rw [hkn] at hE
  rw [hok] at cells c0
  obtain ⟨a, c, rfl, hRv, _⟩ := H.ow.rd
  have hpn := plO x o.nm
  have hpo := plO x o.ot
  have HPl : Hid (∀ y nm, Below W1.heap.size W1 y → Calls Tryz.prog 76 #[.pointer (some ⟨D, 0, none⟩), .string nm] y fun e w' => LkQ y (plcF x.vs nm 0) e w') := fun y nm hy => by
   have hb := b1.trans (hy.mono b1.size)
   exact placeOf_any D x a c o0 dv0 pn0 po0 nm y (H.next hb).dr (by omega) ((hRv.below hb).mono hb.size)
  generalize hpnv : plcF x.vs o.nm 0 = pn at *
  generalize hpov : plcF x.vs o.ot 0 = po at *
  have HPN := hid hpnv
  have HPO := hid hpov
  have hDP : D ≠ P := by have := H.dr.lt; omega
  have HKs : Hid (∀ y, Below W1.heap.size W1 y → y.cell? ⟨P, 0, none⟩ = some (.int .i64 (k : Int)) ∧ y.cell? ⟨P, 1, none⟩ = some (.string o.nm) ∧ y.cell? ⟨P, 2, none⟩ = some (.string o.ot) ∧ y.cell? ⟨P, 3, none⟩ = some (.int .i64 o.fr) ∧ y.cell? ⟨P, 4, none⟩ = some (.int .i64 o.tt) ∧ y.cell? ⟨P, 5, none⟩ = some (.slice da dn dc)) := fun y hy => cells y (hy.block _ hPl)
  have hset : ∀ (y : World) (i : Nat) (z : Value), (y.setCell ⟨D, i, none⟩ z).heap[P]? = y.heap[P]? := fun y i z => Below.heap_setCell _ _ _ _ (fun e => hDP e.symm)
  have hDR : D ≠ R ∧ True := ⟨fun e => by
   obtain ⟨L, _, h1, _⟩ := hRu.2 1 (by omega) (by omega)
   have h2 := H.dr.cs.2.2.1
   rw [← e] at h1
   rw [h1] at h2
   simp at h2, trivial⟩
  have HD4 : Hid (∀ w4, Below W1.heap.size W1 w4 → ((∃ z4, w4.cell? ⟨D, 4, none⟩ = some z4 ∧ True) ∧ True) ∧ True) := fun w4 hb => ⟨⟨⟨_, (H.next (b1.trans (hb.mono b1.size))).dr.cs.2.2.2.2.1, trivial⟩, trivial⟩, trivial⟩
  have HD4 : Hid (∀ w4, Below W1.heap.size W1 w4 → (w4.cell? ⟨D, 4, none⟩ = some (.int .i64 o0.k) ∧ w4.cell? ⟨D, 5, none⟩ = some (.string o0.nm) ∧ w4.cell? ⟨D, 6, none⟩ = some (.string o0.ot) ∧ w4.cell? ⟨D, 7, none⟩ = some (.int .i64 o0.fr) ∧ w4.cell? ⟨D, 8, none⟩ = some (.int .i64 o0.tt) ∧ w4.cell? ⟨D, 9, none⟩ = some dv0 ∧ w4.cell? ⟨D, 10, none⟩ = some (.int .i64 pn0) ∧ w4.cell? ⟨D, 11, none⟩ = some (.int .i64 po0)) ∧ (w4.frozen? ⟨D, 4, none⟩ = false ∧ w4.frozen? ⟨D, 5, none⟩ = false ∧ w4.frozen? ⟨D, 6, none⟩ = false ∧ w4.frozen? ⟨D, 7, none⟩ = false ∧ w4.frozen? ⟨D, 8, none⟩ = false ∧ w4.frozen? ⟨D, 9, none⟩ = false ∧ w4.frozen? ⟨D, 10, none⟩ = false ∧ w4.frozen? ⟨D, 11, none⟩ = false) ∧ (((((((w4.setCell ⟨D, 4, none⟩ (.int .i64 (k : Int))).setCell ⟨D, 5, none⟩ (.string o.nm)).setCell ⟨D, 6, none⟩ (.string o.ot)).setCell ⟨D, 7, none⟩ (.int .i64 o.fr)).setCell ⟨D, 8, none⟩ (.int .i64 o.tt)).setCell ⟨D, 9, none⟩ (.slice da dn dc)).cell? ⟨P, 0, none⟩ = some (.int .i64 (k : Int)) ∧ ((((((w4.setCell ⟨D, 4, none⟩ (.int .i64 (k : Int))).setCell ⟨D, 5, none⟩ (.string o.nm)).setCell ⟨D, 6, none⟩ (.string o.ot)).setCell ⟨D, 7, none⟩ (.int .i64 o.fr)).setCell ⟨D, 8, none⟩ (.int .i64 o.tt)).setCell ⟨D, 9, none⟩ (.slice da dn dc)).cell? ⟨P, 1, none⟩ = some (.string o.nm) ∧ ((((((w4.setCell ⟨D, 4, none⟩ (.int .i64 (k : Int))).setCell ⟨D, 5, none⟩ (.string o.nm)).setCell ⟨D, 6, none⟩ (.string o.ot)).setCell ⟨D, 7, none⟩ (.int .i64 o.fr)).setCell ⟨D, 8, none⟩ (.int .i64 o.tt)).setCell ⟨D, 9, none⟩ (.slice da dn dc)).cell? ⟨P, 2, none⟩ = some (.string o.ot) ∧ ((((((w4.setCell ⟨D, 4, none⟩ (.int .i64 (k : Int))).setCell ⟨D, 5, none⟩ (.string o.nm)).setCell ⟨D, 6, none⟩ (.string o.ot)).setCell ⟨D, 7, none⟩ (.int .i64 o.fr)).setCell ⟨D, 8, none⟩ (.int .i64 o.tt)).setCell ⟨D, 9, none⟩ (.slice da dn dc)).cell? ⟨P, 3, none⟩ = some (.int .i64 o.fr) ∧ ((((((w4.setCell ⟨D, 4, none⟩ (.int .i64 (k : Int))).setCell ⟨D, 5, none⟩ (.string o.nm)).setCell ⟨D, 6, none⟩ (.string o.ot)).setCell ⟨D, 7, none⟩ (.int .i64 o.fr)).setCell ⟨D, 8, none⟩ (.int .i64 o.tt)).setCell ⟨D, 9, none⟩ (.slice da dn dc)).cell? ⟨P, 4, none⟩ = some (.int .i64 o.tt) ∧ ((((((w4.setCell ⟨D, 4, none⟩ (.int .i64 (k : Int))).setCell ⟨D, 5, none⟩ (.string o.nm)).setCell ⟨D, 6, none⟩ (.string o.ot)).setCell ⟨D, 7, none⟩ (.int .i64 o.fr)).setCell ⟨D, 8, none⟩ (.int .i64 o.tt)).setCell ⟨D, 9, none⟩ (.slice da dn dc)).cell? ⟨P, 5, none⟩ = some (.slice da dn dc)) ∧ ((((((((w4.setCell ⟨D, 4, none⟩ (.int .i64 (k : Int))).setCell ⟨D, 5, none⟩ (.string o.nm)).setCell ⟨D, 6, none⟩ (.string o.ot)).setCell ⟨D, 7, none⟩ (.int .i64 o.fr)).setCell ⟨D, 8, none⟩ (.int .i64 o.tt)).setCell ⟨D, 9, none⟩ (.slice da dn dc)).setCell ⟨D, 10, none⟩ (.int .i64 pn)).cell? ⟨P, 0, none⟩ = some (.int .i64 (k : Int)) ∧ (((((((w4.setCell ⟨D, 4, none⟩ (.int .i64 (k : Int))).setCell ⟨D, 5, none⟩ (.string o.nm)).setCell ⟨D, 6, none⟩ (.string o.ot)).setCell ⟨D, 7, none⟩ (.int .i64 o.fr)).setCell ⟨D, 8, none⟩ (.int .i64 o.tt)).setCell ⟨D, 9, none⟩ (.slice da dn dc)).setCell ⟨D, 10, none⟩ (.int .i64 pn)).cell? ⟨P, 1, none⟩ = some (.string o.nm) ∧ (((((((w4.setCell ⟨D, 4, none⟩ (.int .i64 (k : Int))).setCell ⟨D, 5, none⟩ (.string o.nm)).setCell ⟨D, 6, none⟩ (.string o.ot)).setCell ⟨D, 7, none⟩ (.int .i64 o.fr)).setCell ⟨D, 8, none⟩ (.int .i64 o.tt)).setCell ⟨D, 9, none⟩ (.slice da dn dc)).setCell ⟨D, 10, none⟩ (.int .i64 pn)).cell? ⟨P, 2, none⟩ = some (.string o.ot) ∧ (((((((w4.setCell ⟨D, 4, none⟩ (.int .i64 (k : Int))).setCell ⟨D, 5, none⟩ (.string o.nm)).setCell ⟨D, 6, none⟩ (.string o.ot)).setCell ⟨D, 7, none⟩ (.int .i64 o.fr)).setCell ⟨D, 8, none⟩ (.int .i64 o.tt)).setCell ⟨D, 9, none⟩ (.slice da dn dc)).setCell ⟨D, 10, none⟩ (.int .i64 pn)).cell? ⟨P, 3, none⟩ = some (.int .i64 o.fr) ∧ (((((((w4.setCell ⟨D, 4, none⟩ (.int .i64 (k : Int))).setCell ⟨D, 5, none⟩ (.string o.nm)).setCell ⟨D, 6, none⟩ (.string o.ot)).setCell ⟨D, 7, none⟩ (.int .i64 o.fr)).setCell ⟨D, 8, none⟩ (.int .i64 o.tt)).setCell ⟨D, 9, none⟩ (.slice da dn dc)).setCell ⟨D, 10, none⟩ (.int .i64 pn)).cell? ⟨P, 4, none⟩ = some (.int .i64 o.tt) ∧ (((((((w4.setCell ⟨D, 4, none⟩ (.int .i64 (k : Int))).setCell ⟨D, 5, none⟩ (.string o.nm)).setCell ⟨D, 6, none⟩ (.string o.ot)).setCell ⟨D, 7, none⟩ (.int .i64 o.fr)).setCell ⟨D, 8, none⟩ (.int .i64 o.tt)).setCell ⟨D, 9, none⟩ (.slice da dn dc)).setCell ⟨D, 10, none⟩ (.int .i64 pn)).cell? ⟨P, 5, none⟩ = some (.slice da dn dc)) ∧ Hid (∀ y, y = ((((((((w4.setCell ⟨D, 4, none⟩ (.int .i64 (k : Int))).setCell ⟨D, 5, none⟩ (.string o.nm)).setCell ⟨D, 6, none⟩ (.string o.ot)).setCell ⟨D, 7, none⟩ (.int .i64 o.fr)).setCell ⟨D, 8, none⟩ (.int .i64 o.tt)).setCell ⟨D, 9, none⟩ (.slice da dn dc)).setCell ⟨D, 10, none⟩ (.int .i64 pn)).setCell ⟨D, 11, none⟩ (.int .i64 po)) → DrV B y D x (.slice a x.vs.length c) us o (.slice da dn dc) pn po ∧ BelK B w y ∧ RuB y R ∧ (y.cell? ⟨P, 0, none⟩ = some (.int .i64 (k : Int)) ∧ y.cell? ⟨P, 1, none⟩ = some (.string o.nm) ∧ y.cell? ⟨P, 2, none⟩ = some (.string o.ot) ∧ y.cell? ⟨P, 3, none⟩ = some (.int .i64 o.fr) ∧ y.cell? ⟨P, 4, none⟩ = some (.int .i64 o.tt) ∧ y.cell? ⟨P, 5, none⟩ = some (.slice da dn dc)))) := fun w4 hb => by
   have hbw := b1.trans (hb.mono b1.size)
   have H4 := H.next hbw
   obtain ⟨_, _, _, _, d4, d5, d6, d7, d8, d9, d10, d11⟩ := H4.dr.cs
   have hP4 : w4.heap[P]? = W1.heap[P]? := hb.block _ hPl
   refine ⟨⟨d4, d5, d6, d7, d8, d9, d10, d11⟩, ⟨H4.dr.fz 4, H4.dr.fz 5, H4.dr.fz 6, H4.dr.fz 7, H4.dr.fz 8, H4.dr.fz 9, H4.dr.fz 10, H4.dr.fz 11⟩, cells _ (by simp only [hset]; exact hP4), cells _ (by simp only [hset]; exact hP4), hid (fun y hy => ?_)⟩
   have hyh : ∀ z, z ≠ D → y.heap[z]? = w4.heap[z]? := fun z hz => by
    rw [hy]
    iterate 8 rw [Below.heap_setCell _ _ _ _ hz]
   have hys : y.heap.size = w4.heap.size := by rw [hy]; simp [World.setCell]
   have hdr : DrB y D x (.slice a x.vs.length c) o (.slice da dn dc) pn po := by rw [hy, ← hok]; exact H4.dr.setO
   refine ⟨⟨hdr, ⟨H4.ow.len, own_keep H4.ow.row fun z hz => hyh z (fun e => H4.ne.1 (by rw [hz, e])), fun i hi => own_keep (H4.ow.dat i hi) fun z hz => hyh z (fun e => H4.ne.2 i (by rw [H4.ow.len]; exact hi) (by rw [hz, e]))⟩, H4.ap, H4.hD⟩, ?_, ?_, cells y ((hyh P (fun e => hDP e.symm)).trans hP4)⟩
   ·have q : BelK B w w4 := BelK.low hbw rfl hB
    have hD := H.hD
    have k0 := H4.kd
    have k1 := k0.set ⟨D, 4, none⟩ (.int .i64 o.k)
    have k2 := k1.set ⟨D, 5, none⟩ (.string o.nm)
    have k3 := k2.set ⟨D, 6, none⟩ (.string o.ot)
    have k4 := k3.set ⟨D, 7, none⟩ (.int .i64 o.fr)
    have k5 := k4.set ⟨D, 8, none⟩ (.int .i64 o.tt)
    have k6 := k5.set ⟨D, 9, none⟩ (.slice da dn dc)
    have k7 := k6.set ⟨D, 10, none⟩ (.int .i64 pn)
    rw [hy, ← hok]
    exact (((((((q.set (p := ⟨D, 4, none⟩) hD k0 _).set (p := ⟨D, 5, none⟩) hD k1 _).set (p := ⟨D, 6, none⟩) hD k2 _).set (p := ⟨D, 7, none⟩) hD k3 _).set (p := ⟨D, 8, none⟩) hD k4 _).set (p := ⟨D, 9, none⟩) hD k5 _).set (p := ⟨D, 10, none⟩) hD k6 _).set (p := ⟨D, 11, none⟩) hD k7 _
   ·have hR4 := hRu.next hbw
    refine ⟨by rw [hys]; exact hR4.1, fun k' h1 h2 => ?_⟩
    obtain ⟨L, hL, g1, g2, g3⟩ := hR4.2 k' h1 h2
    have hLD : L ≠ D := fun e => by
     have q := g3 0 (by rcases (show k' = 1 ∨ k' = 2 ∨ k' = 3 ∨ k' = 4 ∨ k' = 5 ∨ k' = 6 ∨ k' = 7 ∨ k' = 8 ∨ k' = 9 ∨ k' = 10 ∨ k' = 11 by omega) with rfl | rfl | rfl | rfl | rfl | rfl | rfl | rfl | rfl | rfl | rfl <;> decide)
     have q2 := H4.dr.cs.1
     rw [← e, q] at q2
     simp at q2
    have hRD : y.heap[R]? = w4.heap[R]? := hyh R (fun e => hDR.1 e.symm)
    have hLD2 : y.heap[L]? = w4.heap[L]? := hyh L hLD
    refine ⟨L, by rw [hys]; exact hL, ?_, ?_, fun i hi => ?_⟩
    ·simp only [World.cell?, hRD]; exact g1
    ·simp only [World.cell?, hRD]; exact g2
    ·simp only [World.cell?, hLD2]; exact g3 i hi
  have HT : Hid (∀ y, DrV B y D x (.slice a x.vs.length c) us o (.slice da dn dc) pn po → BelK B w y → RuB y R → ∃ L, L < y.heap.size ∧ (y.cell? ⟨R, k * 2, none⟩ = some (.slice (some ⟨L, 0, none⟩) (lks k).length (lks k).length) ∧ y.cell? ⟨R, k * 2 + 1, none⟩ = some (.func (.func (dof k)) #[] #[])) ∧ (∀ i (hi : i < (lks k).length) wr, Below y.heap.size y wr → (∀ j (hj : j < i), lkE ((lks k)[j]'(by omega)) x o pn po = 0) → ∃ f, wr.cell? ⟨L, i, none⟩ = some (.func (.func f) #[] #[]) ∧ (∀ (gs : Array Value) (u : World), Sem.run Tryz.prog (callFunc f gs) u = .ok (.enter f gs) u) ∧ (Calls Tryz.prog f #[.pointer (some ⟨D, 0, none⟩)] wr fun e w' => LkQ wr (lkE ((lks k)[i]'hi) x o pn po) e w') ∧ (lkE ((lks k)[i]'hi) x o pn po ≠ 0 → ∀ w', Below wr.heap.size wr w' → TkQ B w D x o dn (.returned (.int .i64 (lkE ((lks k)[i]'hi) x o pn po))) w')) ∧ (∀ wr, Below y.heap.size y wr → (∀ j (hj : j < (lks k).length), lkE ((lks k)[j]'hj) x o pn po = 0) → Calls Tryz.prog (dof k) #[.pointer (some ⟨D, 0, none⟩)] wr fun e w' => e = .returned (.tuple #[]) ∧ TkQ B w D x o dn (.returned (.int .i64 0)) w')) := fun y hy hby hRy => by
   obtain ⟨L, hL, g1, g2, g3⟩ := hRy.2 k hk1 hk2
   have hlen : (lksE k x o pn po).length = (lks k).length := by unfold lksE; simp
   have hget : ∀ i (hi : i < (lks k).length), (lksE k x o pn po)[i]'(by rw [hlen]; exact hi) = lkE ((lks k)[i]'hi) x o pn po := fun i hi => by unfold lksE; simp
   refine ⟨L, hL, ⟨g1, g2⟩, fun i hi wr hb h0 => ?_, fun wr hb h0 => ?_⟩
   ·obtain ⟨n1, n2, n3⟩ := looks_need k hk1 hk2 x o pn po hpn hpo i hi h0
    refine ⟨(lks k)[i], (hb.cell (by exact hL)).trans (g3 i hi), look_run _ n1, look_any _ n1 B D x _ us o _ pn po wr (hy.next hb) (by omega) n2 n3, fun hne w' hw' => ?_⟩
    have he : tkE x o dn = lkE ((lks k)[i]'hi) x o pn po := by
     rw [hE, firstE_hit _ i (by rw [hlen]; exact hi) (fun j hj => by rw [hget j (by omega)]; exact h0 j hj) (by rw [hget i hi]; exact hne), hget i hi]
    refine ⟨by rw [he], ?_, fun h => absurd (he ▸ h) hne⟩
    exact hby.trans (BelK.low (hb.trans (hw'.mono hb.size)) rfl (Nat.le_trans hB hby.size))
   ·have he : tkE x o dn = 0 := by
     rw [hE]
     exact firstE_all _ (fun j hj => by rw [hget j (by rw [← hlen]; exact hj)]; exact h0 j (by rw [← hlen]; exact hj))
    have hN := do_needs k hk1 hk2 x o pn po hpn hpo h0
    refine (do_any k hk1 hk2 B D x _ us o _ pn po wr (hy.next hb) hl hl2 (by have := hby.size; have := hb.size; omega) hN.1 hN.2).mono fun e w' hq => ?_
    refine ⟨hq.1, by rw [he], ?_, fun _ => ?_⟩
    ·exact (hby.trans (BelK.low hb rfl (Nat.le_trans hB hby.size))).trans hq.2.2
    ·obtain ⟨u', us', h1⟩ := hq.2.1
     exact ⟨u', us', o, _, pn, po, by rw [hX]; exact h1⟩
  have hRl := hRu.1
  have HRl := hid hRl
  have hk3 : (k : Int) < 12 := by omega
  have mixed : Tryz.prog.follows Departure.mixedOrders = true := by kernel_rfl
  obtain ⟨A, hA⟩ : ∃ A : Nat → Int, A = fun i => lkE ((lks k).getD i 0) x o pn po := ⟨_, rfl⟩
  have HA : Hid (∀ i (hi : i < (lks k).length), lkE ((lks k)[i]'hi) x o pn po = A i) := fun i hi => by
   rw [hA]
   dsimp only
   rw [List.getD_eq_getElem?_getD, List.getElem?_eq_getElem hi]
   exact rfl
  have hok' := hid hok
  have HN4 : Hid ((lks k).length ≤ 4) := by
   unfold Hid
   rcases (show k = 1 ∨ k = 2 ∨ k = 3 ∨ k = 4 ∨ k = 5 ∨ k = 6 ∨ k = 7 ∨ k = 8 ∨ k = 9 ∨ k = 10 ∨ k = 11 by omega) with rfl | rfl | rfl | rfl | rfl | rfl | rfl | rfl | rfl | rfl | rfl <;> decide
  have HDF : Hid (∀ (gs : Array Value) (u : World), Sem.run Tryz.prog (callFunc (dof k) gs) u = .ok (.enter (dof k) gs) u) := do_run k hk1 hk2
  clear hA H hG hRu hl hB b1 hW1 hP hP1 cells hE hX hpn hpo hRv hset hDP hDR hPl hfm hkn hk2 hk1 hl2 hpnv hpov hRl hok
  dsimp only [opA] at HFm
  rw [hok'.out] at HW1 HFm
  show Calls Tryz.prog 32 #[.pointer (some ⟨D, 0, none⟩), .agg #[.int .i64 o.k, .string o.nm, .string o.ot, .int .i64 o.fr, .int .i64 o.tt, .slice da dn dc], .slice (some ⟨R, 0, none⟩) 12 12] w _
  rw [hok'.out]
  go_enter Tryz.func32, Tryz.ntmps32
  go_wp2_with fail
  rw [← HW1.out, ← HP.out]
  go_wp2_with fail
  refine HFm.out.mono ?_
  rintro e w2 ⟨rfl, hb2⟩
  clear HFm c0 c1 c2 c3 c4 c5
  obtain ⟨c0, c1, c2, c3, c4, c5⟩ := HKs.out w2 hb2
  go_wp2_with fail
  refine wp_region_last (S := (fun y => y.cell? ⟨P, 0, none⟩ = some (.int .i64 (k : Int)) ∧ y.cell? ⟨P, 1, none⟩ = some (.string o.nm) ∧ y.cell? ⟨P, 2, none⟩ = some (.string o.ot) ∧ y.cell? ⟨P, 3, none⟩ = some (.int .i64 o.fr) ∧ y.cell? ⟨P, 4, none⟩ = some (.int .i64 o.tt) ∧ y.cell? ⟨P, 5, none⟩ = some (.slice da dn dc))) 20 20 (by kernel_rfl) (by kernel_rfl) (by kernel_rfl) (HKs.out w2 hb2) (fun hSS => ?_)
  refine Ti 0 rfl ?_
  refine Ti 1 rfl ?_
  refine Ti 2 rfl ?_
  refine Ti 3 rfl ?_
  try simp only [Act.put, zA, zB, zC]
  refine Ti 4 rfl ?_
  refine Ti 5 rfl ?_
  refine Ti 6 rfl ?_
  refine Ti 8 rfl ?_
  try simp only [Act.put, zA, zB, zC]
  refine Ti 9 rfl ?_
  refine Ti 10 rfl ?_
  try simp only [Act.put, zA, zB, zC]
  refine Ri 7 rfl (fun K9 hK9 => ?_)
  go_simp
  go_at_call 76
  refine (HPl.out _ o.nm (below_dr hb2)).mono ?_
  rintro e w3 ⟨rfl, hb3⟩
  have hw3 := hb2.trans ((undrew hb3).mono hb2.size)
  refine hK9.out _ _ (HKs.out w3 hw3) (fun hSS => ?_)
  try simp only [Act.put, zA, zB, zC]
  refine Ri 11 rfl (fun K9 hK9 => ?_)
  go_simp
  go_at_call 76
  refine (HPl.out w3 o.ot hw3).mono ?_
  rintro e w4 ⟨rfl, hb4⟩
  have hw4 := hw3.trans (hb4.mono hw3.size)
  rw [HPN.out, HPO.out]
  obtain ⟨⟨q4, q5, q6, q7, q8, q9, q10, q11⟩, ⟨z4, z5, z6, z7, z8, z9, z10, z11⟩, kp14, kp17, hfin⟩ := HD4.out w4 hw4
  refine hK9.out _ _ (HKs.out w4 hw4) (fun hSS => ?_)
  try simp only [Act.put, zA, zB, zC]
  refine Ti 12 rfl ?_
  refine Ti 13 rfl ?_
  try simp only [Act.put, zA, zB, zC]
  refine Ri 14 rfl (fun K9 hK9 => ?_)
  go_simp
  refine hK9.out _ _ kp14 (fun hSS => ?_)
  try simp only [Act.put, zA, zB, zC]
  refine Ti 15 rfl ?_
  refine Ti 16 rfl ?_
  try simp only [Act.put, zA, zB, zC]
  refine Ri 17 rfl (fun K9 hK9 => ?_)
  go_simp
  refine hK9.out _ _ kp17 (fun hSS => ?_)
  try simp only [Act.put, zA, zB, zC]
  refine Ti 18 rfl ?_
  try simp only [Act.put, zA, zB, zC]
  refine Ti 19 rfl ?_
  try simp only [Act.put, zA, zB, zC]
  refine Dn ?_
  refine last_step (L := 20) (o := ({ dst := none, op := Op.store 3 (Operand.tmp 34) (Operand.tmp 28), type := 0, pos := _, after := _, guard := none } : Oper)) rfl (fun K9 hK9 => ?_)
  go_simp
  refine hK9.out _ _ ?_
  try simp only [Act.put, zA, zB, zC]
  have hfin' := fun y hy => hfin.out y hy
  obtain ⟨W5, hW5⟩ : ∃ W5, W5 = ((((((((w4.setCell ⟨D, 4, none⟩ (.int .i64 (k : Int))).setCell ⟨D, 5, none⟩ (.string o.nm)).setCell ⟨D, 6, none⟩ (.string o.ot)).setCell ⟨D, 7, none⟩ (.int .i64 o.fr)).setCell ⟨D, 8, none⟩ (.int .i64 o.tt)).setCell ⟨D, 9, none⟩ (.slice da dn dc)).setCell ⟨D, 10, none⟩ (.int .i64 pn)).setCell ⟨D, 11, none⟩ (.int .i64 po)) := ⟨_, rfl⟩
  rw [← hW5]
  obtain ⟨hd5, hb5, hr5, p0, p1, p2, p3, p4, p5⟩ := hfin' W5 hW5
  obtain ⟨L, hL, ⟨g1, g2⟩, hlk, hdo⟩ := HT.out W5 hd5 hb5 hr5
  have HLK := hid hlk
  have HDO := hid hdo
  have hRl5 := hr5.1
  clear hW5 hfin' hfin hd5 hb5 hr5 hb2 hb3 hb4 hw3 hw4 q4 q5 q6 q7 q8 q9 q10 q11 z4 z5 z6 z7 z8 z9 z10 z11 kp14 kp17 c0 c1 c2 c3 c4 c5 HT HD4 HPl HKs hlk hdo hSS
  obtain ⟨n, hn⟩ : ∃ n, (lks k).length = n := ⟨_, rfl⟩
  have HLK2 : Hid (∀ i, i < n → ∀ wr, Below W5.heap.size W5 wr → (∀ j, j < i → A j = 0) → ∃ f, wr.cell? ⟨L, i, none⟩ = some (.func (.func f) #[] #[]) ∧ (∀ (gs : Array Value) (u : World), Sem.run Tryz.prog (callFunc f gs) u = .ok (.enter f gs) u) ∧ (Calls Tryz.prog f #[.pointer (some ⟨D, 0, none⟩)] wr fun e w' => LkQ wr (A i) e w') ∧ (A i ≠ 0 → ∀ w', Below wr.heap.size wr w' → TkQ B w D x o dn (.returned (.int .i64 (A i))) w')) := fun i hi wr hb h0 => by
   have hi' : i < (lks k).length := by omega
   have := HLK.out i hi' wr hb (fun j hj => by rw [HA.out j (by omega)]; exact h0 j hj)
   rw [HA.out i hi'] at this
   exact this
  have HDO2 : Hid (∀ wr, Below W5.heap.size W5 wr → (∀ j, j < n → A j = 0) → Calls Tryz.prog (dof k) #[.pointer (some ⟨D, 0, none⟩)] wr fun e w' => e = .returned (.tuple #[]) ∧ TkQ B w D x o dn (.returned (.int .i64 0)) w') := fun wr hb h0 => HDO.out wr hb (fun j hj => by rw [HA.out j hj]; exact h0 j (by omega))
  have hdf := HDF.out
  have hn4 : n ≤ 4 := by have := HN4.out; omega
  rw [hn] at g1
  clear hn HLK HDO HA
  generalize dof k = df at *
  obtain ⟨Q, hQ⟩ : ∃ Q, Q = W5.heap.size := ⟨_, rfl⟩
  obtain ⟨W6, hW6⟩ : ∃ W6, W6 = W5.alloc (.cells #[.slice (some ⟨L, 0, none⟩) n n, .func (.func df) #[] #[]] 99) := ⟨_, rfl⟩
  have b6 : Below W5.heap.size W5 W6 := by rw [hW6]; exact below1 _ _
  have hQ6 : W6.heap[Q]? = some (.cells #[.slice (some ⟨L, 0, none⟩) n n, .func (.func df) #[] #[]] 99 (0, 0)) := by rw [hW6, hQ]; exact heap_new _ _
  have hQl : Q < W6.heap.size := (Array.getElem?_eq_some_iff.1 hQ6).1
  have HQc : Hid (∀ wr, Below W6.heap.size W6 wr → wr.cell? ⟨Q, 0, none⟩ = some (.slice (some ⟨L, 0, none⟩) n n) ∧ wr.cell? ⟨Q, 1, none⟩ = some (.func (.func df) #[] #[])) := fun wr hb => by
   have := (hb.block Q hQl).trans hQ6
   simp [World.cell?, this]
  obtain ⟨u0, u1⟩ := HQc.out W6 (Below.refl _ _)
  have HB6 := hid b6
  have HW6 := hid hW6
  have HQQ := hid hQ
  clear hQ hW6 b6 hQ6 hQl
  go_wp2_with fail
  rw [← HW6.out, ← HQQ.out]
  go_wp2_with fail
  go_loopw [43] (fun iv wr => ∃ i : Nat, i ≤ n ∧ iv = .int .i64 (i : Int) ∧ (∀ j, j < i → A j = 0) ∧ Below W6.heap.size W6 wr) (fun iv _ => n - (intOf iv).toNat)
  case atStart => exact ⟨0, Nat.zero_le _, rfl, fun j hj => by omega, Below.refl _ _⟩
  case round =>
   obtain ⟨i, hin, rfl, h0, hb⟩ := hrel
   have hb5 := HB6.out.trans (hb.mono HB6.out.size)
   by_cases hlt : i < n
   ·obtain ⟨f, l0, hcf, hC, hE⟩ := HLK2.out i hlt wr hb5 h0
    have HC := hid hC
    have HE := hid hE
    have HB := hid hb
    have H0 := hid h0
    have HLT := hid hlt
    have hl1 : (i : Int) < (n : Int) := by omega
    generalize hai : A i = ai at *
    have HAI := hid hai
    clear hC hE hb h0 hb5 HLK2 HDO2 hai
    go_wp2_with fail
    refine HC.out.mono ?_
    rintro e w7 ⟨rfl, hb7⟩
    by_cases hz : ai = 0
    ·subst hz
     have HB7 := hid (HB.out.trans (hb7.mono HB.out.size))
     clear hb7 HC HE HB
     go_wp2
     go_roundw
     case rel => exact ⟨i + 1, by have := HLT.out; omega, by go_num, fun j hj => by
      by_cases e : j = i
      ·rw [e]; exact HAI.out
      ·exact H0.out j (by omega), HB7.out⟩
     case measure => have := HLT.out; simp [intOf]; omega
    ·have HQ := hid (HE.out hz w7 hb7)
     have hz' : (ai != 0) = true := by simpa using hz
     clear hb7 HC HE HB hz
     go_wp2
     go_ret
     exact HQ.out
   ·have ein : i = n := by omega
    subst ein
    have HC := hid (HDO2.out wr hb5 h0)
    obtain ⟨v0, v1⟩ := HQc.out wr hb
    have hl1 : ¬ (i : Int) < (i : Int) := by omega
    clear hb h0 hb5 HLK2 HDO2
    go_wp2_with fail
    refine HC.out.mono ?_
    rintro e w7 ⟨rfl, hq⟩
    have HQ := hid hq
    clear hq HC
    go_wp2
    go_ret
    exact HQ.out
 ·have hE : tkE x o dn = fmE o dn := by unfold tkE; rw [if_neg hfm]
  have HQ : Hid (∀ w2, Below W1.heap.size W1 w2 → TkQ B w D x o dn (.returned (.int .i64 (fmE o dn))) w2) := fun w2 hb => ⟨by rw [hE], BelK.low (b1.trans (hb.mono b1.size)) rfl hB, fun h => absurd (hE ▸ h) hfm⟩
  generalize fmE o dn = fe at *
  have hfe : (fe != 0) = true := by simpa using hfm
  clear H hG hRu hl hB b1 hW1 hP hP1 cells hE
  go_enter Tryz.func32, Tryz.ntmps32
  go_wp2_with fail
  rw [← HW1.out, ← HP.out]
  go_wp2_with fail
  refine HFm.out.mono ?_
  rintro e w2 ⟨rfl, hb2⟩
  have HQ2 := hid (HQ.out w2 hb2)
  clear hb2 HFm HQ
  go_wp2
  go_ret
  exact HQ2.out
end Go.Proofs.YtddddfankeepkaaGreatDoor
namespace Go.Proofs.YtddddfankeepkaaGreatDoor
open Go.RowKit
/-! ### the rules, in blocks of their types -/
def RuK (w : World) (R : Nat) : Prop := (∃ rs fr, w.heap[R]? = some (.cells rs 99 fr)) ∧ ∀ k, 1 ≤ k → k ≤ 11 → ∃ L, (∃ cs fr, w.heap[L]? = some (.cells cs 94 fr)) ∧ w.cell? ⟨R, k * 2, none⟩ = some (.slice (some ⟨L, 0, none⟩) (lks k).length (lks k).length) ∧ w.cell? ⟨R, k * 2 + 1, none⟩ = some (.func (.func (dof k)) #[] #[]) ∧ ∀ i (hi : i < (lks k).length), w.cell? ⟨L, i, none⟩ = some (.func (.func (lks k)[i]) #[] #[])
theorem RuK.ru {w : World} {R : Nat} (h : RuK w R) : RuB w R := by
 obtain ⟨⟨rs, fr, hR⟩, hk⟩ := h
 refine ⟨(Array.getElem?_eq_some_iff.1 hR).1, fun k h1 h2 => ?_⟩
 obtain ⟨L, ⟨cs, f, hL⟩, a, b, c⟩ := hk k h1 h2
 exact ⟨L, (Array.getElem?_eq_some_iff.1 hL).1, a, b, c⟩
theorem RuK.kept {w w' : World} {R : Nat} (h : RuK w R) (hb : ∀ (b : Nat) (cs : Array Value) (t : TypeId) (fr : Nat × Nat), w.heap[b]? = some (.cells cs t fr) → (t = 94 ∨ t = 99) → w'.heap[b]? = w.heap[b]?) : RuK w' R := by
 obtain ⟨⟨rs, fr, hR⟩, hk⟩ := h
 have eR := hb R rs 99 fr hR (.inr rfl)
 refine ⟨⟨rs, fr, eR.trans hR⟩, fun k h1 h2 => ?_⟩
 obtain ⟨L, ⟨cs, f, hL⟩, a, b, c⟩ := hk k h1 h2
 have eL := hb L cs 94 f hL (.inl rfl)
 exact ⟨L, ⟨cs, f, eL.trans hL⟩, (World.cell?_of_block (a := ⟨R, _, none⟩) eR).trans a, (World.cell?_of_block (a := ⟨R, _, none⟩) eR).trans b, fun i hi => (World.cell?_of_block (a := ⟨L, _, none⟩) eL).trans (c i hi)⟩
theorem RuK.belk {B : Nat} {w w' : World} {R : Nat} (h : RuK w R) (hb : BelK B w w') : RuK w' R := h.kept hb.kk
def RuKQ (w : World) (e : Ending) (w' : World) : Prop := ∃ R, e = .returned (.slice (some ⟨R, 0, none⟩) 12 12) ∧ RuK w' R ∧ Below w.heap.size w w'
theorem ruK_of (w : World) (os : List Obj) (h : ∀ k, 1 ≤ k → k ≤ 11 → ∃ j cs rs, j < 11 ∧ os[j]? = some (.cells cs 94 (0, 0)) ∧ os[10]? = some (.cells rs 99 (0, 0)) ∧ (rs[k * 2]? = some (.slice (some ⟨w.heap.size + j, 0, none⟩) (lks k).length (lks k).length) ∧ rs[k * 2 + 1]? = some (.func (.func (dof k)) #[] #[])) ∧ ∀ i (hi : i < (lks k).length), cs[i]? = some (.func (.func (lks k)[i]) #[] #[])) : RuKQ w (.returned (.slice (some ⟨w.heap.size + 10, 0, none⟩) 12 12)) (alls w os) := by
 obtain ⟨h1, h2, h3⟩ := alls_spec os w
 have hb : ∀ (j : Nat) (o : Obj), os[j]? = some o → (alls w os).heap[w.heap.size + j]? = some o := fun j o ho => by
  obtain ⟨hj, he⟩ := List.getElem?_eq_some_iff.1 ho
  rw [← he]
  exact h3 j hj
 refine ⟨_, rfl, ⟨?_, fun k k1 k2 => ?_⟩, h2⟩
 ·obtain ⟨j, cs, rs, hj, a, b, _⟩ := h 1 (by omega) (by omega)
  exact ⟨rs, _, hb _ _ b⟩
 ·obtain ⟨j, cs, rs, hj, a, b, ⟨c, d⟩, e⟩ := h k k1 k2
  exact ⟨w.heap.size + j, ⟨cs, _, hb _ _ a⟩, alls_cell b c, alls_cell b d, fun i hi => alls_cell a (e i hi)⟩
set_option maxRecDepth 100000 in
set_option maxHeartbeats 8000000 in
theorem rulesK_any (w : World) : Calls Tryz.prog 31 #[] w fun e w' => RuKQ w e w' := by
 go_enter Tryz.func31, Tryz.ntmps31
 go_wp2
 go_ret
 show RuKQ w (.returned (.slice (some ⟨w.heap.size + 10, 0, none⟩) 12 12)) (alls w [_, _, _, _, _, _, _, _, _, _, _])
 refine ruK_of w _ (fun k h1 h2 => ?_)
 rcases (show k = 1 ∨ k = 2 ∨ k = 3 ∨ k = 4 ∨ k = 5 ∨ k = 6 ∨ k = 7 ∨ k = 8 ∨ k = 9 ∨ k = 10 ∨ k = 11 by omega) with rfl | rfl | rfl | rfl | rfl | rfl | rfl | rfl | rfl | rfl | rfl
 ·exact ⟨4, _, _, by decide, rfl, rfl, ⟨rfl, rfl⟩, fun i hi => by match i, hi with | 0, _ => rfl | 1, _ => rfl | 2, _ => rfl⟩
 ·exact ⟨0, _, _, by decide, rfl, rfl, ⟨rfl, rfl⟩, fun i hi => by match i, hi with | 0, _ => rfl | 1, _ => rfl | 2, _ => rfl | 3, _ => rfl⟩
 ·exact ⟨0, _, _, by decide, rfl, rfl, ⟨rfl, rfl⟩, fun i hi => by match i, hi with | 0, _ => rfl | 1, _ => rfl | 2, _ => rfl | 3, _ => rfl⟩
 ·exact ⟨5, _, _, by decide, rfl, rfl, ⟨rfl, rfl⟩, fun i hi => by match i, hi with | 0, _ => rfl | 1, _ => rfl | 2, _ => rfl⟩
 ·exact ⟨6, _, _, by decide, rfl, rfl, ⟨rfl, rfl⟩, fun i hi => by match i, hi with | 0, _ => rfl | 1, _ => rfl | 2, _ => rfl⟩
 ·exact ⟨7, _, _, by decide, rfl, rfl, ⟨rfl, rfl⟩, fun i hi => by match i, hi with | 0, _ => rfl | 1, _ => rfl⟩
 ·exact ⟨3, _, _, by decide, rfl, rfl, ⟨rfl, rfl⟩, fun i hi => by match i, hi with | 0, _ => rfl | 1, _ => rfl | 2, _ => rfl | 3, _ => rfl⟩
 ·exact ⟨8, _, _, by decide, rfl, rfl, ⟨rfl, rfl⟩, fun i hi => by match i, hi with | 0, _ => rfl | 1, _ => rfl | 2, _ => rfl⟩
 ·exact ⟨1, _, _, by decide, rfl, rfl, ⟨rfl, rfl⟩, fun i hi => by match i, hi with | 0, _ => rfl | 1, _ => rfl | 2, _ => rfl⟩
 ·exact ⟨2, _, _, by decide, rfl, rfl, ⟨rfl, rfl⟩, fun i hi => by match i, hi with | 0, _ => rfl | 1, _ => rfl | 2, _ => rfl | 3, _ => rfl⟩
 ·exact ⟨9, _, _, by decide, rfl, rfl, ⟨rfl, rfl⟩, fun i hi => by match i, hi with | 0, _ => rfl⟩
/-! ### sizes: by an operation a volume more at most, two ranges more in a list -/
def szV (n m : Nat) (vs : List PV) : Prop := vs.length ≤ n ∧ ∀ v ∈ vs, v.mp.length ≤ m
theorem szV.shV {n m : Nat} {vs : List PV} (h : szV n m vs) (hn : n ≤ 16777216) (hm : m ≤ 16777216) : shV vs := ⟨Nat.le_trans h.1 hn, fun v hv => Nat.le_trans (h.2 v hv) hm⟩
theorem szV.mono {n m n' m' : Nat} {vs : List PV} (h : szV n m vs) (hn : n ≤ n') (hm : m ≤ m') : szV n' m' vs := ⟨Nat.le_trans h.1 hn, fun v hv => Nat.le_trans (h.2 v hv) hm⟩
theorem szV.erase {n m : Nat} {vs : List PV} (h : szV n m vs) (k : Nat) : szV n m (vs.eraseIdx k) := ⟨Nat.le_trans (List.length_eraseIdx_le vs k) h.1, fun v hv => h.2 v (List.mem_of_mem_eraseIdx hv)⟩
theorem szV.set {n m : Nat} {vs : List PV} (h : szV n m vs) (k : Nat) {v : PV} (hv : v.mp.length ≤ m) : szV n m (vs.set k v) := ⟨by rw [List.length_set]; exact h.1, fun z hz => by
 rcases List.mem_or_eq_of_mem_set hz with q | q
 ·exact h.2 z q
 ·rw [q]; exact hv⟩
theorem szV.lay {n m : Nat} {vs : List PV} (h : szV n m vs) {v : PV} (hv : v.mp.length ≤ m) : szV (n + 1) m (layP vs v) := by
 refine ⟨?_, fun z hz => ?_⟩
 ·have := h.1
  unfold layP
  simp only [List.length_append, List.length_take, List.length_drop, List.length_singleton]
  omega
 ·unfold layP at hz
  simp only [List.mem_append, List.mem_singleton] at hz
  rcases hz with (q | q) | q
  ·exact h.2 z (List.mem_of_mem_take q)
  ·rw [q]; exact hv
  ·exact h.2 z (List.mem_of_mem_drop q)
theorem szV.vol {n m : Nat} {x : VW} (h : szV n m x.vs) (p : Int) : (volAt x p).mp.length ≤ m := by
 unfold volAt
 rw [List.getD_eq_getElem?_getD]
 by_cases hp : p.toNat < x.vs.length
 ·rw [List.getElem?_eq_getElem hp]
  exact h.2 _ (List.getElem_mem hp)
 ·rw [List.getElem?_eq_none (by omega)]
  exact Nat.zero_le _
theorem spl_len2 (rs ys : List Rg) (i j : Nat) (h : i ≤ j) : (spl rs i j ys).length ≤ rs.length + ys.length := by
 unfold spl
 simp only [List.length_append, List.length_take, List.length_drop]
 omega
theorem join_len (rs : List Rg) (r : Rg) : (joinP rs r).length ≤ rs.length + 2 := by
 unfold joinP
 split
 ·omega
 ·split
  ·exact Nat.le_trans (spl_len2 _ _ _ _ (Nat.le_refl _)) (by simp)
  ·exact Nat.le_trans (spl_len2 _ _ _ _ (by omega)) (by simp)
theorem cut_len (rs : List Rg) (r : Rg) : (cutP rs r).length ≤ rs.length + 2 := by
 unfold cutP
 split
 ·omega
 ·split
  ·omega
  ·refine Nat.le_trans (spl_len2 _ _ _ _ (by omega)) (Nat.add_le_add_left ?_ _)
   exact Nat.le_trans (List.length_filter_le _ _) (by simp)
theorem szV.dox {n m : Nat} {x : VW} (h : szV n m x.vs) (k : Nat) (o : OW) (pn po : Int) : szV (n + 1) (m + 2) (doX k x o pn po).vs := by
 have hm := h.mono (Nat.le_refl _) (show m ≤ m + 2 by omega)
 have h1 := hm.mono (show n ≤ n + 1 by omega) (Nat.le_refl _)
 have hv : ∀ p, (volAt x p).mp.length ≤ m + 2 := hm.vol
 have hv' : ∀ p, (volAt x p).mp.length ≤ m := h.vol
 unfold doX
 split
 ·exact hm.lay (v := nmd2 _ _ _) (Nat.zero_le _)
 ·exact hm.lay (v := nmd2 _ _ _) (hv po)
 ·exact hm.lay (v := nmd2 _ _ _) (hv po)
 ·exact h1.set _ (Nat.le_trans (cut_len _ _) (Nat.add_le_add_right (hv' pn) 2))
 ·exact (hm.erase _).lay (v := setNm _ _) (hv pn)
 ·exact h1.erase _
 ·exact h1.set _ (hv po)
 ·exact h1.set _ (Nat.le_trans (join_len _ _) (Nat.add_le_add_right (hv' pn) 2))
 ·exact h1.set _ (Nat.le_trans (cut_len _ _) (Nat.add_le_add_right (hv' pn) 2))
 ·exact h1.set _ (Nat.le_trans (join_len _ _) (Nat.add_le_add_right (hv' pn) 2))
 ·exact h1
/-! ### operations in their list -/
structure OpC (w : World) (b off : Nat) (o : OW) (a : Option Addr) (n c : Nat) : Prop where
 o0 : w.cell? ⟨b, off, none⟩ = some (.int .i64 o.k)
 o1 : w.cell? ⟨b, off + 1, none⟩ = some (.string o.nm)
 o2 : w.cell? ⟨b, off + 2, none⟩ = some (.string o.ot)
 o3 : w.cell? ⟨b, off + 3, none⟩ = some (.int .i64 o.fr)
 o4 : w.cell? ⟨b, off + 4, none⟩ = some (.int .i64 o.tt)
 o5 : w.cell? ⟨b, off + 5, none⟩ = some (.slice a n c)
structure okW (o : OW) : Prop where
 nm : o.nm.size ≤ 16777216
 ot : o.ot.size ≤ 16777216
 f0 : -9223372036854775808 ≤ o.fr
 t1 : o.tt ≤ 9223372036854775807
def RdA (B : Nat) (w : World) (z : Option Addr) (os : List (OW × Nat)) : Prop :=
 os = [] ∨ ∃ b off, z = some ⟨b, off, none⟩ ∧ b < B ∧ ∀ t (h : t < os.length), ∃ a c, OpC w b (off + t * 6) os[t].1 a os[t].2 c
theorem OpC.keep {w w' : World} {b off : Nat} {o : OW} {a : Option Addr} {n c : Nat} (h : OpC w b off o a n c) (hb : w'.heap[b]? = w.heap[b]?) : OpC w' b off o a n c :=
 ⟨(World.cell?_of_block (a := ⟨b, _, none⟩) hb).trans h.o0, (World.cell?_of_block (a := ⟨b, _, none⟩) hb).trans h.o1, (World.cell?_of_block (a := ⟨b, _, none⟩) hb).trans h.o2, (World.cell?_of_block (a := ⟨b, _, none⟩) hb).trans h.o3, (World.cell?_of_block (a := ⟨b, _, none⟩) hb).trans h.o4, (World.cell?_of_block (a := ⟨b, _, none⟩) hb).trans h.o5⟩
theorem RdA.below {B : Nat} {w w' : World} {z : Option Addr} {os : List (OW × Nat)} (h : RdA B w z os) (hb : Below B w w') : RdA B w' z os := by
 rcases h with e | ⟨b, off, rfl, hl, hc⟩
 ·exact .inl e
 ·exact .inr ⟨b, off, rfl, hl, fun t ht => by
   obtain ⟨a, c, h1⟩ := hc t ht
   exact ⟨a, c, h1.keep (hb.block b hl)⟩⟩
def allP : VW → List (OW × Nat) → Nat → VW × Int × Int
 | x, [], _ => (x, 0, 0)
 | x, (o, n) :: r, i => if tkE x o n = 0 then allP (tkX x o) r (i + 1) else (VW0, (i : Int), tkE x o n)
def runP : VW → List (OW × Nat) → VW
 | x, [] => x
 | x, (o, _) :: r => runP (tkX x o) r
theorem runP_snoc : ∀ (l : List (OW × Nat)) (x : VW) (o : OW × Nat), runP x (l ++ [o]) = tkX (runP x l) o.1
 | [], _, _ => rfl
 | _ :: l, _, o => runP_snoc l _ o
def goP (x : VW) (os : List (OW × Nat)) (i : Nat) : Prop := ∀ j (h : j < os.length), j < i → tkE (runP x (os.take j)) os[j].1 os[j].2 = 0
theorem allP_hit : ∀ (os : List (OW × Nat)) (x : VW) (k i : Nat) (hi : i < os.length), goP x os i → tkE (runP x (os.take i)) os[i].1 os[i].2 ≠ 0 → allP x os k = (VW0, ((k + i : Nat) : Int), tkE (runP x (os.take i)) os[i].1 os[i].2)
 | [], x, k, i, hi, _, _ => by simp at hi
 | (o, n) :: l, x, k, 0, hi, _, h => by unfold allP; rw [if_neg (by simpa [runP] using h)]; rfl
 | (o, n) :: l, x, k, i + 1, hi, h0, h => by
  have h00 : tkE x o n = 0 := h0 0 (by simp) (by omega)
  unfold allP
  rw [if_pos h00, allP_hit l (tkX x o) (k + 1) i (by simpa using hi) (fun j hj hji => h0 (j + 1) (by simpa using hj) (by omega)) (by exact h)]
  simp only [List.take_succ_cons, runP, List.getElem_cons_succ]
  rw [show k + 1 + i = k + (i + 1) by omega]
theorem allP_all : ∀ (os : List (OW × Nat)) (x : VW) (k : Nat), goP x os os.length → allP x os k = (runP x os, 0, 0)
 | [], x, k, _ => rfl
 | (o, n) :: l, x, k, h0 => by
  have h00 : tkE x o n = 0 := h0 0 (by simp) (by simp)
  unfold allP
  rw [if_pos h00, allP_all l (tkX x o) (k + 1) (fun j hj hji => h0 (j + 1) (by simpa using hj) (by simp; omega))]
  rfl
theorem sz_run : ∀ (os : List (OW × Nat)) (x : VW) (n m : Nat), szV n m x.vs → szV (n + os.length) (m + 2 * os.length) (runP x os).vs
 | [], _, _, _, h => h
 | o :: l, x, n, m, h => by
  have := sz_run l (tkX x o.1) (n + 1) (m + 2) (h.dox _ _ _ _)
  refine this.mono (by simp; omega) (by simp; omega)
end Go.Proofs.YtddddfankeepkaaGreatDoor
namespace Go.Proofs.YtddddfankeepkaaGreatDoor
open Go.RowKit
theorem results_row_tmp2 {P : Program} {fn : Func} {p u u2 : Tmp} {ty : TypeId} (h : fn.results = #[.cell p ty, .tmp u, .tmp u2]) (tmps : Array Value) (w : World) (g : Nat) (t : TypeId) (cs : Array Value) (fr : Nat × Nat) (d : TypeDesc) (x y : Value)
  (hp : tmps.getD p undef = .pointer (some ⟨g, 0, none⟩)) (hx : tmps.getD u undef = x) (hy : tmps.getD u2 undef = y) (hg : w.heap[g]? = some (.cells cs t fr))
  (hu : P.underlying ty = some d) (hd : (match d with | .struct _ | .array _ _ => true | _ => false) = true) (hi : (P.info? ty).map (·.size) = some cs.size) :
  (results fn tmps).run P w = .ok (.tuple #[.agg cs, x, y]) w := by
 have e : (results fn tmps).run P w = ((asAddr (tmps.getD p undef)).run P w).andThen fun a w₁ => ((loadVar ty a).run P w₁).andThen fun v w₂ => .ok (.tuple #[v, tmps.getD u undef, tmps.getD u2 undef]) w₂ := by
  simp only [results, h]
  simp [Sem.run_bind, Result.andThen]
 rw [e, hp, hx, hy]
 simp [asAddr, run_loadVar_row w g t ty cs fr d hg hu hd hi]
theorem OwV.mono {A B : Nat} {w : World} {u : Value} {vs : List PV} {us : List Value} (h : OwV B w u vs us) (hA : A ≤ B) : OwV A w u vs us :=
 ⟨h.len, own_mono h.row hA, fun i hi => own_mono (h.dat i hi) hA⟩
def AllQ (w : World) (r : VW × Int × Int) (e : Ending) (w' : World) : Prop := ∃ a' c' us, e = .returned (.tuple #[viewA r.1 a' c', .int .i64 r.2.1, .int .i64 r.2.2]) ∧ OwV w.heap.size w' (.slice a' r.1.vs.length c') r.1.vs us ∧ Ap us ∧ Below w.heap.size w w'
structure AlS (w wr : World) (Q C D R : Nat) (x : VW) (os : List (OW × Nat)) (i : Nat) : Prop where
 dr : ∃ u us o dv pn po, DrV C wr D (runP x (os.take i)) u us o dv pn po
 ru : RuK wr R
 rb : VwB wr Q VW0 (.slice none 0 0)
 bel : Below w.heap.size w wr
 hC : C ≤ wr.heap.size
 hQ : Q < C
 hw : w.heap.size ≤ Q
 go : goP x os i
theorem alS_step {w wr : World} {Q C D R : Nat} {x : VW} {os : List (OW × Nat)} {i : Nat} {z : Option Addr} (hl : szV 8388607 8388608 x.vs) (hn : os.length ≤ 4194304) (hG : GT w) (hok : ∀ o ∈ os, okW o.1) (hR : RdA w.heap.size w z os) (hi : i < os.length) (hS : AlS w wr Q C D R x os i) :
  ∃ b off a c, z = some ⟨b, off, none⟩ ∧ OpC wr b (off + i * 6) os[i].1 a os[i].2 c ∧ ∀ W', W' = wr.alloc (.cells #[.int .i64 os[i].1.k, .string os[i].1.nm, .string os[i].1.ot, .int .i64 os[i].1.fr, .int .i64 os[i].1.tt, .slice a os[i].2 c] 42) →
   Calls Tryz.prog 32 #[.pointer (some ⟨D, 0, none⟩), opA os[i].1 a os[i].2 c, .slice (some ⟨R, 0, none⟩) 12 12] W' fun e w7 => ∃ z7 : Int, e = .returned (.int .i64 z7) ∧ VwB w7 Q VW0 (.slice none 0 0) ∧ (z7 = 0 → AlS w w7 Q C D R x os (i + 1)) ∧
    (z7 ≠ 0 → ∀ y, y = put4 w7 Q VW0 (.slice none 0 0) → VwB y Q VW0 (.slice none 0 0) ∧ AllQ w (allP x os 0) (.returned (.tuple #[viewA VW0 none 0, .int .i64 (i : Int), .int .i64 z7])) y) := by
 obtain ⟨b, off, rfl, hb, hc⟩ := (hR.below hS.bel).resolve_left (fun e => by rw [e] at hi; simp at hi)
 obtain ⟨a, c, hO⟩ := hc i hi
 refine ⟨b, off, a, c, rfl, hO, ?_⟩
 rintro W' rfl
 obtain ⟨u, us, o, dv, pn, po, hD⟩ := hS.dr
 have b1 := below1 wr (.cells #[.int .i64 os[i].1.k, .string os[i].1.nm, .string os[i].1.ot, .int .i64 os[i].1.fr, .int .i64 os[i].1.tt, .slice a os[i].2 c] 42)
 generalize wr.alloc (.cells #[.int .i64 os[i].1.k, .string os[i].1.nm, .string os[i].1.ot, .int .i64 os[i].1.fr, .int .i64 os[i].1.tt, .slice a os[i].2 c] 42) = W' at *
 have hsz := sz_run (os.take i) x _ _ hl
 have hti : (os.take i).length ≤ 4194304 := by rw [List.length_take]; omega
 have hk := hok os[i] (List.getElem_mem hi)
 have hrw : RuK W' R := hS.ru.kept fun b cs t fr hb _ => b1.block b (Array.getElem?_eq_some_iff.1 hb).1
 have hGr : GT W' := (hG.next hS.bel).next b1
 refine (take_any C D R _ u us o dv pn po os[i].1 a os[i].2 c W' (hD.next b1) hGr hrw.ru (hsz.shV (by omega) (by omega)) (Nat.le_trans hsz.1 (by omega)) (Nat.le_trans hS.hC b1.size) hk.nm hk.ot hk.f0 hk.t1).mono ?_
 rintro e w7 ⟨rfl, hB, hd⟩
 have hC := hS.hC
 have hQ := hS.hQ
 have hw := hS.hw
 have hbt : Below C wr w7 := (b1.mono hC).trans hB.toBelow
 have hrb : VwB w7 Q VW0 (.slice none 0 0) := hS.rb.keep (hbt.block Q hQ)
 have hbel : Below w.heap.size w w7 := hS.bel.trans (hbt.mono (by omega))
 refine ⟨_, rfl, hrb, fun h0 => ?_, fun h0 y hy => ?_⟩
 ·obtain ⟨u', us', o', dv', pn', po', hd'⟩ := hd h0
  refine ⟨⟨u', us', o', dv', pn', po', ?_⟩, hrw.belk hB, hrb, hbel, Nat.le_trans hC hbt.size, hQ, hw, fun j hj hji => ?_⟩
  ·rw [List.take_succ_eq_append_getElem hi, runP_snoc]
   exact hd'
  ·by_cases e : j = i
   ·subst e; exact h0
   ·exact hS.go j hj (by omega)
 ·have hp := allP_hit os x 0 i hi hS.go h0
  rw [hp, hy]
  refine ⟨hrb.put4, none, 0, [], by simp, ⟨rfl, ⟨rfl, .inl ⟨rfl, rfl⟩⟩, fun i hi => by simp [VW0] at hi⟩, fun i j hi => by simp at hi, hbel.trans ((but_put4 w7 Q VW0 (.slice none 0 0)).below hbel.size (fun g hg e => by omega))⟩
theorem alS_end {w wr : World} {Q C D R : Nat} {x : VW} {os : List (OW × Nat)} (hS : AlS w wr Q C D R x os os.length) :
  ∃ a' c', VwB wr Q VW0 (.slice none 0 0) ∧ (∃ o dv pn po, DrB wr D (runP x os) (.slice a' (runP x os).vs.length c') o dv pn po) ∧ ∀ y, y = put4 wr Q (runP x os) (.slice a' (runP x os).vs.length c') → VwB y Q (runP x os) (.slice a' (runP x os).vs.length c') ∧ AllQ w (allP x os 0) (.returned (.tuple #[viewA (runP x os) a' c', .int .i64 0, .int .i64 0])) y := by
 obtain ⟨u, us, o, dv, pn, po, hD⟩ := hS.dr
 rw [List.take_length] at hD
 obtain ⟨a', c', rfl, _, _⟩ := hD.ow.rd
 have hC := hS.hC
 have hQ := hS.hQ
 have hw := hS.hw
 refine ⟨a', c', hS.rb, ⟨_, _, _, _, hD.dr⟩, ?_⟩
 rintro y rfl
 have bt := but_put4 wr Q (runP x os) (.slice a' (runP x os).vs.length c')
 rw [allP_all os x 0 hS.go]
 exact ⟨hS.rb.put4, a', c', us, rfl, (hD.ow.keep fun g h1 h2 => bt.block g h2 (by omega)).mono (by omega), hD.ap, hS.bel.trans (bt.below hS.bel.size (fun g hg e => by omega))⟩
theorem alS_start {w W2 W3 : World} {Q C D R : Nat} {x : VW} {os : List (OW × Nat)} {u : Value} {us : List Value} {o : OW} {dv : Value} {pn po : Int} (hD : DrV C W2 D x u us o dv pn po) (hb : Below W2.heap.size W2 W3) (hr : RuK W3 R) (hQ : VwB W2 Q VW0 (.slice none 0 0)) (hB : Below w.heap.size w W2) (hQC : Q < C) (hw : w.heap.size ≤ Q) (hC : C ≤ W2.heap.size) : AlS w W3 Q C D R x os 0 :=
 ⟨⟨u, us, o, dv, pn, po, hD.next hb⟩, hr, hQ.keep (hb.block Q hQ.lt), hB.trans (hb.mono hB.size), Nat.le_trans hC hb.size, hQC, hw, fun j _ h => by omega⟩
end Go.Proofs.YtddddfankeepkaaGreatDoor
namespace Go.Proofs.YtddddfankeepkaaGreatDoor
open Go.RowKit
set_option maxRecDepth 100000 in
set_option maxHeartbeats 4000000 in
theorem All_any (x : VW) (a : Option Addr) (c0 : Nat) (os : List (OW × Nat)) (z : Option Addr) (zc : Nat) (w : World) (hl : szV 8388607 8388608 x.vs) (hR : RdV w.heap.size w a x.vs) (ha : a = none → c0 = 0) (hn : os.length ≤ 4194304) (hG : GT w) (hok : ∀ o ∈ os, okW o.1) (hO : RdA w.heap.size w z os) :
  Calls Tryz.prog 9 #[viewA x a c0, .slice z os.length zc] w fun e w' => AllQ w (allP x os 0) e w' := by
 obtain ⟨P, hP⟩ : ∃ P, P = w.heap.size := ⟨_, rfl⟩
 obtain ⟨Q, hQ⟩ : ∃ Q, Q = w.heap.size + 1 := ⟨_, rfl⟩
 obtain ⟨C, hC⟩ : ∃ C, C = w.heap.size + 2 := ⟨_, rfl⟩
 obtain ⟨W0, hW0⟩ : ∃ W0, W0 = w.alloc (.cells #[.int .i64 x.cp, .int .i64 x.fr, .int .i64 x.nx, .slice a x.vs.length c0] 24) := ⟨_, rfl⟩
 obtain ⟨W1, hW1⟩ : ∃ W1, W1 = W0.alloc (.cells #[.int .i64 0, .int .i64 0, .int .i64 0, .slice none 0 0] 24) := ⟨_, rfl⟩
 have b0 : Below w.heap.size w W0 := by rw [hW0]; exact below1 _ _
 have s0 : W0.heap.size = w.heap.size + 1 := by rw [hW0]; exact World.size_alloc _ _
 have b1 : Below W0.heap.size W0 W1 := by rw [hW1]; exact below1 _ _
 have s1 : W1.heap.size = C := by rw [hW1, World.size_alloc]; omega
 have e0 : w.heap.size = P := hP.symm
 have e1 : W0.heap.size = Q := by omega
 have e2 : w.heap.size + 1 = Q := by omega
 have hV : VwB W1 P x (.slice a x.vs.length c0) := by
  unfold VwB
  rw [b1.block P (by omega), hP, hW0]
  exact heap_new _ _
 have hZ : VwB W1 Q VW0 (.slice none 0 0) := by
  unfold VwB
  rw [← e1, hW1]
  exact heap_new _ _
 have b01 : Below w.heap.size w W1 := b0.trans (b1.mono b0.size)
 have HDr := hid (draftOf_any x a c0 W1 (hl.shV (by omega) (by omega)) ((hR.below b01).mono b01.size) ha)
 have HSt : Hid (∀ W2 W3 R D u us o dv pn po, DrV W1.heap.size W2 D x u us o dv pn po → Below W1.heap.size W1 W2 → Below W2.heap.size W2 W3 → RuK W3 R → AlS w W3 Q C D R x os 0) := fun W2 W3 R D u us o dv pn po h1 h2 h3 h4 =>
  alS_start (by rw [← s1]; exact h1) h3 h4 (hZ.keep (h2.block Q hZ.lt)) (b01.trans (h2.mono b01.size)) (by omega) (by omega) (by rw [← s1]; exact h2.size)
 have HSTEP := hid (fun (wr : World) (D R i : Nat) (hi : i < os.length) (hS : AlS w wr Q C D R x os i) => alS_step (z := z) hl hn hG hok hO hi hS)
 have HEND := hid (fun (wr : World) (D R : Nat) (hS : AlS w wr Q C D R x os os.length) => alS_end hS)
 obtain ⟨⟨v0, v1, v2, v3⟩, _⟩ := hV.cs
 have HW0 := hid hW0
 have HW1 := hid hW1
 have HE0 := hid e0
 have HE1 := hid e2
 obtain ⟨n, hnn⟩ : ∃ n, n = os.length := ⟨_, rfl⟩
 have HNN := hid hnn
 have HN16 := hid hn
 rw [← hnn]
 clear hP hQ hC hW0 hW1 b0 s0 b1 s1 e0 e1 e2 hV hZ b01 hl hR ha hG hok hO hnn hn
 dsimp only [viewA] at *
 go_enter Tryz.func9, Tryz.ntmps9
 go_wp2_with fail
 rw [← HW0.out, ← HW1.out, HE1.out, HE0.out]
 refine HDr.out.mono ?_
 rintro e W2 ⟨D, u, us, rfl, hD, hb2⟩
 have HD := hid hD
 have HB2 := hid hb2
 clear hD hb2 HDr v0 v1 v2 v3
 go_wp2_with fail
 refine (rulesK_any W2).mono ?_
 rintro e W3 ⟨R, rfl, hr, hb3⟩
 have HI := hid (HSt.out _ _ _ _ _ _ _ _ _ _ HD.out HB2.out hb3 hr)
 have HSTEP2 := hid (fun wr i hi hS => HSTEP.out wr D R i hi hS)
 have HEND2 := hid (fun wr hS => HEND.out wr D R hS)
 clear hr hb3 HD HB2 HSt HSTEP HEND HW0 HW1 HE0 HE1
 go_wp2_with fail
 go_loopw [17] (fun iv wr => ∃ i : Nat, i ≤ n ∧ iv = .int .i64 (i : Int) ∧ AlS w wr Q C D R x os i) (fun iv _ => n - (intOf iv).toNat)
 case atStart => exact ⟨0, Nat.zero_le _, rfl, HI.out⟩
 case round =>
  obtain ⟨i, hin, rfl, hS⟩ := hrel
  by_cases hlt : i < n
  ·obtain ⟨b, off, oa, oc, rfl, ⟨k0, k1, k2, k3, k4, k5⟩, hC⟩ := HSTEP2.out wr i (by have := HNN.out; omega) hS
   have HC := hid hC
   have hl1 : (i : Int) < (n : Int) := by omega
   have hln : i < os.length := by have := HNN.out; omega
   have HLT := hid hlt
   have hb16 : n ≤ 4194304 := by have := HN16.out; have := HNN.out; omega
   clear hC hS HSTEP2 HEND2 HI
   generalize os[i].1 = o at *
   generalize os[i].2 = dn at *
   go_wp2_with fail
   refine (HC.out _ rfl).mono ?_
   rintro e w7 ⟨z7, rfl, hv, h0, h9⟩
   obtain ⟨⟨p0, p1, p2, p3⟩, pf⟩ := hv.cs
   clear hv k0 k1 k2 k3 k4 k5 HC
   by_cases hz : z7 = 0
   ·subst hz
    have HS := hid (h0 rfl)
    clear h0 h9
    go_wp2
    go_roundw
    case rel => exact ⟨i + 1, by have := HLT.out; omega, by go_num, HS.out⟩
    case measure => have := HLT.out; simp [intOf]; omega
   ·have H9 := hid (h9 hz)
    have hz' : (z7 != 0) = true := by simpa using hz
    clear h0 h9 hz
    go_wp2_with fail
    have HFin := H9.out _ rfl
    exact bodyPost_ret (results_row_tmp2 rfl _ _ Q 24 _ (0, 0) _ (.int .i64 (i : Int)) (.int .i64 z7) rfl rfl rfl HFin.1 Tryz.underlying24 rfl (by kernel_rfl)) rfl HFin.2
  ·have ein : i = n := by omega
   subst ein
   obtain ⟨a', c', t1, ⟨o, dv, pn, po, t2⟩, t3⟩ := HEND2.out wr (by rw [← HNN.out]; exact hS)
   have hl1 : ¬ (i : Int) < (i : Int) := by omega
   clear hS HSTEP2 HEND2 HI
   obtain ⟨q0, q1, q2, q3, _⟩ := t2.cs
   obtain ⟨_, qf⟩ := t1.cs
   obtain ⟨⟨p0, p1, p2, p3⟩, pf⟩ := t1.cs
   have T3 := hid t3
   clear t1 t2 t3
   go_wp2_with fail
   have HFin := T3.out _ rfl
   exact bodyPost_ret (results_row_tmp2 rfl _ _ Q 24 _ (0, 0) _ (.int .i64 0) (.int .i64 0) rfl rfl rfl HFin.1 Tryz.underlying24 rfl (by kernel_rfl)) rfl HFin.2
end Go.Proofs.YtddddfankeepkaaGreatDoor
namespace Go.Proofs.YtddddfankeepkaaGreatDoor
open Go.RowKit
def DoV (w : World) (r : VW × Int × Int) (e : Ending) (w' : World) : Prop := ∃ a' c' us, e = .returned (.tuple #[viewA r.1 a' c', .int .i64 r.2.2]) ∧ OwV w.heap.size w' (.slice a' r.1.vs.length c') r.1.vs us ∧ Ap us ∧ Below w.heap.size w w'
set_option maxRecDepth 100000 in
set_option maxHeartbeats 4000000 in
theorem Do_any (x : VW) (a : Option Addr) (c0 : Nat) (o : OW) (da : Option Addr) (dn dc : Nat) (w : World) (hl : szV 8388607 8388608 x.vs) (hR : RdV w.heap.size w a x.vs) (ha : a = none → c0 = 0) (hG : GT w) (hok : okW o) :
  Calls Tryz.prog 17 #[viewA x a c0, opA o da dn dc] w fun e w' => DoV w (allP x [(o, dn)] 0) e w' := by
 obtain ⟨Q, hQ⟩ : ∃ Q, Q = w.heap.size + 1 + 1 := ⟨_, rfl⟩
 obtain ⟨S, hS⟩ : ∃ S, S = w.heap.size + 1 + 1 + 1 := ⟨_, rfl⟩
 obtain ⟨W1, hW1⟩ : ∃ W1, W1 = w.alloc (.cells #[.int .i64 x.cp, .int .i64 x.fr, .int .i64 x.nx, .slice a x.vs.length c0] 24) := ⟨_, rfl⟩
 obtain ⟨W2, hW2⟩ : ∃ W2, W2 = W1.alloc (.cells #[.int .i64 o.k, .string o.nm, .string o.ot, .int .i64 o.fr, .int .i64 o.tt, .slice da dn dc] 42) := ⟨_, rfl⟩
 obtain ⟨W3, hW3⟩ : ∃ W3, W3 = W2.alloc (.cells #[.int .i64 0, .int .i64 0, .int .i64 0, .slice none 0 0] 24) := ⟨_, rfl⟩
 obtain ⟨W4, hW4⟩ : ∃ W4, W4 = W3.alloc (.cells #[.int .i64 o.k, .string o.nm, .string o.ot, .int .i64 o.fr, .int .i64 o.tt, .slice da dn dc] 42) := ⟨_, rfl⟩
 have b1 : Below w.heap.size w W1 := by rw [hW1]; exact below1 _ _
 have s1 : W1.heap.size = w.heap.size + 1 := by rw [hW1]; exact World.size_alloc _ _
 have b2 : Below W1.heap.size W1 W2 := by rw [hW2]; exact below1 _ _
 have s2 : W2.heap.size = w.heap.size + 1 + 1 := by rw [hW2, World.size_alloc, s1]
 have b3 : Below W2.heap.size W2 W3 := by rw [hW3]; exact below1 _ _
 have s3 : W3.heap.size = w.heap.size + 1 + 1 + 1 := by rw [hW3, World.size_alloc, s2]
 have b4 : Below W3.heap.size W3 W4 := by rw [hW4]; exact below1 _ _
 have s4 : W4.heap.size = w.heap.size + 1 + 1 + 1 + 1 := by rw [hW4, World.size_alloc, s3]
 have bw : Below w.heap.size w W4 := ((b1.trans (b2.mono (by omega))).trans (b3.mono (by omega))).trans (b4.mono (by omega))
 have hZ : VwB W4 Q VW0 (.slice none 0 0) := by
  unfold VwB
  rw [b4.block Q (by omega), hQ, ← s2, hW3]
  exact heap_new _ _
 have hSb : W4.heap[S]? = some (.cells #[.int .i64 o.k, .string o.nm, .string o.ot, .int .i64 o.fr, .int .i64 o.tt, .slice da dn dc] 42 (0, 0)) := by
  rw [hS, ← s3, hW4]
  exact heap_new _ _
 have hO : RdA W4.heap.size W4 (some ⟨S, 0, none⟩) [(o, dn)] := .inr ⟨S, 0, rfl, by omega, fun t ht => by
  have e : t = 0 := by simpa using ht
  subst e
  exact ⟨da, dc, by constructor <;> simp [World.cell?, hSb]⟩⟩
 have HA := hid (All_any x a c0 [(o, dn)] (some ⟨S, 0, none⟩) 1 W4 hl ((hR.below bw).mono bw.size) ha (by simp) (hG.next bw) (fun p hp => by
  have e : p = (o, dn) := by simpa using hp
  rw [e]; exact hok) hO)
 generalize allP x [(o, dn)] 0 = r at *
 obtain ⟨y, iz, er⟩ := r
 have HF : Hid (∀ w5 e, AllQ W4 (y, iz, er) e w5 → ∃ a' c', e = .returned (.tuple #[viewA y a' c', .int .i64 iz, .int .i64 er]) ∧ ∀ V w6, V = w5.heap.size → w6 = w5.alloc (.cells #[.int .i64 y.cp, .int .i64 y.fr, .int .i64 y.nx, .slice a' y.vs.length c'] 24) →
   VwB w6 V y (.slice a' y.vs.length c') ∧ VwB w6 Q VW0 (.slice none 0 0) ∧ ∀ w7, w7 = put4 w6 Q y (.slice a' y.vs.length c') → VwB w7 Q y (.slice a' y.vs.length c') ∧ DoV w (y, iz, er) (.returned (.tuple #[viewA y a' c', .int .i64 er])) w7) := by
  refine hid ?_
  rintro w5 e ⟨a', c', us, rfl, how, hap, hb5⟩
  refine ⟨a', c', rfl, ?_⟩
  rintro V w6 rfl rfl
  have b6 := below1 w5 (.cells #[.int .i64 y.cp, .int .i64 y.fr, .int .i64 y.nx, .slice a' y.vs.length c'] 24)
  have h6 := heap_new w5 (.cells #[.int .i64 y.cp, .int .i64 y.fr, .int .i64 y.nx, .slice a' y.vs.length c'] 24)
  generalize w5.alloc (.cells #[.int .i64 y.cp, .int .i64 y.fr, .int .i64 y.nx, .slice a' y.vs.length c'] 24) = w6 at *
  have hz6 : VwB w6 Q VW0 (.slice none 0 0) := hZ.keep ((b6.block Q (by have := hb5.size; omega)).trans (hb5.block Q (by omega)))
  refine ⟨h6, hz6, ?_⟩
  rintro w7 rfl
  have bt := but_put4 w6 Q y (.slice a' y.vs.length c')
  have hb6 : Below w.heap.size w w6 := (bw.trans (hb5.mono bw.size)).trans (b6.mono (by have := hb5.size; omega))
  exact ⟨hz6.put4, a', c', us, rfl, ((how.next b6).keep fun g h1 h2 => bt.block g h2 (by omega)).mono (by omega), hap, hb6.trans (bt.below hb6.size (fun g hg e => by omega))⟩
 have HQ := hid hQ.symm
 have HS := hid hS.symm
 have HW1 := hid hW1
 have HW2 := hid hW2
 have HW3 := hid hW3
 have HW4 := hid hW4
 clear hQ hS hW1 hW2 hW3 hW4 b1 s1 b2 s2 b3 s3 b4 s4 bw hZ hSb hO hl hR ha hG hok
 dsimp only [viewA, opA] at *
 go_enter Tryz.func17, Tryz.ntmps17
 go_wp2_with fail
 rw [← HW1.out, ← HW2.out, ← HW3.out, ← HW4.out, HS.out, HQ.out]
 refine HA.out.mono ?_
 intro e w5 hA
 obtain ⟨a', c', rfl, hfin⟩ := HF.out w5 e hA
 have hq6 := (hfin _ _ rfl rfl).2.1
 obtain ⟨⟨p0, p1, p2, p3⟩, pf⟩ := hq6.cs
 have pf0 := pf 0
 have pf1 := pf 1
 have pf2 := pf 2
 have pf3 := pf 3
 have HFI := hid hfin
 clear hq6 pf
 clear hfin hA HF HA HW1 HW2 HW3 HW4 HS HQ
 dsimp only [viewA] at *
 go_wp2_with fail
 have HFin := (HFI.out _ _ rfl rfl).2.2 _ rfl
 exact bodyPost_ret (results_row_tmp rfl _ _ Q 24 _ (0, 0) _ (.int .i64 er) rfl rfl HFin.1 Tryz.underlying24 rfl (by kernel_rfl)) rfl HFin.2
end Go.Proofs.YtddddfankeepkaaGreatDoor
namespace Go.Proofs.YtddddfankeepkaaGreatDoor
open Go.RowKit
abbrev nmA : ByteArray := { data := #[97] }
def awP : PV := ⟨nmA, 1, 5, 0, 0, false, []⟩
abbrev awO : OW := ⟨1, nmA, ByteArray.empty, 0, 5⟩
theorem aw_a : ckO 1 nmA ByteArray.empty 0 5 0 = 0 := by decide +kernel
theorem aw_f : fmE awO 0 = 0 := by unfold fmE; rw [aw_a]; simp
theorem aw_l : firstE (lksE 1 ⟨9, 9, 1, []⟩ awO (-1) (-1)) = 0 := by decide +kernel
theorem aw_t : tkE ⟨9, 9, 1, []⟩ awO 0 = 0 := by
 unfold tkE
 rw [if_pos aw_f]
 exact aw_l
theorem aw_x : tkX ⟨9, 9, 1, []⟩ awO = ⟨9, 9, 2, [awP]⟩ := by
 with_unfolding_all rfl
theorem aw_all : allP ⟨9, 9, 1, []⟩ [(awO, 0)] 0 = (⟨9, 9, 2, [awP]⟩, 0, 0) := by
 unfold allP
 rw [if_pos aw_t, aw_x]
 rfl
theorem Num_any (x : Int) (w : World) : Calls Tryz.prog 12 #[.int .i64 x] w fun e w' => e = .returned (.int .i64 x) ∧ w' = w := by
 go_enter Tryz.func12, Tryz.ntmps12
 go_wp2
 go_ret
 exact ⟨rfl, rfl⟩
def BoQ (w : World) (b : Bool) (e : Ending) (w' : World) : Prop := e = .returned (.bool b) ∧ Below w.heap.size w w'
set_option maxRecDepth 100000 in
set_option maxHeartbeats 4000000 in
theorem awake_any (w : World) (hG : GT w) : Calls Tryz.prog 7 #[] w fun e w' => BoQ w true e w' := by
 have HA := hid (Do_any ⟨9, 9, 1, []⟩ none 0 awO none 0 0 w ⟨by simp, by simp⟩ (.inl rfl) (fun _ => rfl) hG ⟨by decide +kernel, by decide +kernel, by simp, by simp⟩)
 rw [aw_all] at HA
 have HF : Hid (∀ w5 e, DoV w (⟨9, 9, 2, [awP]⟩, 0, 0) e w5 → ∃ g c mc ma, e = .returned (.tuple #[.agg #[.int .i64 9, .int .i64 9, .int .i64 2, .slice (some ⟨g, 0, none⟩) 1 c], .int .i64 0]) ∧ VolC w5 g 0 awP ma mc ∧ g < w5.heap.size ∧ ∀ w6, Below w5.heap.size w5 w6 → BoQ w true (.returned (.bool true)) w6) := by
  refine hid ?_
  rintro w5 e ⟨a', c', us, rfl, how, _, hb⟩
  obtain ⟨g, c, ma, mc, e1, hg, _, hV, _⟩ := how.volc (k := 0) (by simp)
  have hgl := (how.blk hg).2.1
  simp only [Value.slice.injEq] at e1
  obtain ⟨rfl, _, rfl⟩ := e1
  exact ⟨g, _, _, _, rfl, by simpa using hV, hgl, fun w6 h6 => ⟨rfl, hb.trans (h6.mono hb.size)⟩⟩
 clear hG
 go_enter Tryz.func7, Tryz.ntmps7
 go_wp2_with fail
 refine HA.out.mono ?_
 intro e w5 hA
 obtain ⟨g, c, mc, ma, rfl, ⟨c0, c1, c2, c3, c4, c5, c6⟩, hgl, hfin⟩ := HF.out w5 e hA
 have d1 : w5.cell? ⟨g, 1, none⟩ = some (.int .i64 1) := c1
 have d2 : w5.cell? ⟨g, 2, none⟩ = some (.int .i64 5) := c2
 have HFI := hid hfin
 clear hfin hA HF HA c0 c1 c2 c3 c4 c5 c6
 go_wp2_with fail
 refine (Num_any _ _).mono ?_
 rintro e w6 ⟨rfl, rfl⟩
 go_wp2_with fail
 go_ret
 exact HFI.out _ (below1 _ _)
end Go.Proofs.YtddddfankeepkaaGreatDoor
namespace Go.Proofs.YtddddfankeepkaaGreatDoor
open Go.RowKit
def Sgn (z : Int) (a b : Bool) : Prop :=
 (a = true ∧ b = true ∧ 97 ≤ z ∧ z ≤ 122) ∨ (a = true ∧ b = true ∧ ¬ z ≤ 122 ∧ 97 ≤ z ∧ z = 126) ∨ (a = false ∧ b = true ∧ ¬ 97 ≤ z ∧ (z == 126) = false ∧ 48 ≤ z ∧ z ≤ 57) ∨
  (∃ q : Int, a = false ∧ b = true ∧ z = q ∧ (q = 46 ∨ q = 45 ∨ q = 95 ∨ q = 64)) ∨ (a = false ∧ b = false ∧ ¬ 97 ≤ z ∧ (z == 126) = false ∧ 48 ≤ z ∧ ¬ z ≤ 57 ∧ (z == 46) = false ∧ (z == 45) = false ∧ (z == 95) = false ∧ (z == 64) = false) ∨
  (a = false ∧ b = false ∧ 97 ≤ z ∧ ¬ z ≤ 122 ∧ (z == 126) = false ∧ 48 ≤ z ∧ ¬ z ≤ 57 ∧ (z == 46) = false ∧ (z == 45) = false ∧ (z == 95) = false ∧ (z == 64) = false) ∨ (a = false ∧ b = false ∧ ¬ 97 ≤ z ∧ (z == 126) = false ∧ ¬ 48 ≤ z ∧ (z == 46) = false ∧ (z == 45) = false ∧ (z == 95) = false ∧ (z == 64) = false)
theorem Sgn.a {z : Int} (h1 : 97 ≤ z) (h2 : z ≤ 122) : Sgn z true true := .inl ⟨rfl, rfl, h1, h2⟩
theorem Sgn.t {z : Int} (h1 : ¬ z ≤ 122) (h2 : 97 ≤ z) (h3 : z = 126) : Sgn z true true := .inr (.inl ⟨rfl, rfl, h1, h2, h3⟩)
theorem Sgn.d {z : Int} (h1 : ¬ 97 ≤ z) (h2 : (z == 126) = false) (h3 : 48 ≤ z) (h4 : z ≤ 57) : Sgn z false true := .inr (.inr (.inl ⟨rfl, rfl, h1, h2, h3, h4⟩))
theorem Sgn.o {z : Int} (q : Int) (h1 : z = q) (h2 : q = 46 ∨ q = 45 ∨ q = 95 ∨ q = 64) : Sgn z false true := .inr (.inr (.inr (.inl ⟨q, rfl, rfl, h1, h2⟩)))
theorem Sgn.n1 {z : Int} (h1 : ¬ 97 ≤ z) (h2 : (z == 126) = false) (h3 : 48 ≤ z) (h4 : ¬ z ≤ 57) (h5 : (z == 46) = false) (h6 : (z == 45) = false) (h7 : (z == 95) = false) (h8 : (z == 64) = false) : Sgn z false false := .inr (.inr (.inr (.inr (.inl ⟨rfl, rfl, h1, h2, h3, h4, h5, h6, h7, h8⟩))))
theorem Sgn.n2 {z : Int} (h0 : 97 ≤ z) (h1 : ¬ z ≤ 122) (h2 : (z == 126) = false) (h3 : 48 ≤ z) (h4 : ¬ z ≤ 57) (h5 : (z == 46) = false) (h6 : (z == 45) = false) (h7 : (z == 95) = false) (h8 : (z == 64) = false) : Sgn z false false := .inr (.inr (.inr (.inr (.inr (.inl ⟨rfl, rfl, h0, h1, h2, h3, h4, h5, h6, h7, h8⟩)))))
theorem Sgn.n3 {z : Int} (h1 : ¬ 97 ≤ z) (h2 : (z == 126) = false) (h3 : ¬ 48 ≤ z) (h5 : (z == 46) = false) (h6 : (z == 45) = false) (h7 : (z == 95) = false) (h8 : (z == 64) = false) : Sgn z false false := .inr (.inr (.inr (.inr (.inr (.inr ⟨rfl, rfl, h1, h2, h3, h5, h6, h7, h8⟩)))))
theorem low_yes {z : Int} (h : (97 ≤ z ∧ z ≤ 122) ∨ z = 126) : isLow z = true := by
 unfold isLow
 rcases h with ⟨a, b⟩ | a <;> simp [*]
theorem low_no {z : Int} (h : ¬ (97 ≤ z ∧ z ≤ 122)) (h2 : ¬ z = 126) : isLow z = false := by
 unfold isLow
 by_cases a : 97 ≤ z
 ·have b : ¬ z ≤ 122 := fun b => h ⟨a, b⟩
  simp [b, h2]
 ·simp [a, h2]
theorem sgn_of (z : Int) : Sgn z (isLow z) (isSign z) := by
 by_cases a : 97 ≤ z
 ·by_cases b : z ≤ 122
  ·have e := low_yes (.inl ⟨a, b⟩)
   rw [isSign_low e, e]
   exact .a a b
  ·by_cases c : z = 126
   ·have e := low_yes (.inr c)
    rw [isSign_low e, e]
    exact .t b a c
   ·have e := low_no (fun q => b q.2) c
    have s : isSign z = false := by
     unfold isSign
     rw [e]
     simp [show ¬ z ≤ 57 by omega, show ¬ z = 46 by omega, show ¬ z = 45 by omega, show ¬ z = 95 by omega, show ¬ z = 64 by omega]
    rw [s, e]
    exact .n2 a b (by simpa using c) (by omega) (by omega) (by simp; omega) (by simp; omega) (by simp; omega) (by simp; omega)
 ·have c : ¬ z = 126 := by omega
  have e := low_no (fun q => a q.1) c
  by_cases d : 48 ≤ z ∧ z ≤ 57
  ·have s : isSign z = true := by
    unfold isSign
    rw [e]
    simp [d.1, d.2]
   rw [s, e]
   exact .d a (by simpa using c) d.1 d.2
  ·by_cases o : z = 46 ∨ z = 45 ∨ z = 95 ∨ z = 64
   ·have s : isSign z = true := by
     unfold isSign
     rw [e]
     rcases o with q | q | q | q <;> simp [q]
    rw [s, e]
    exact .o z rfl o
   ·have s : isSign z = false := by
     unfold isSign
     rw [e]
     have o1 : ¬ z = 46 := fun q => o (.inl q)
     have o2 : ¬ z = 45 := fun q => o (.inr (.inl q))
     have o3 : ¬ z = 95 := fun q => o (.inr (.inr (.inl q)))
     have o4 : ¬ z = 64 := fun q => o (.inr (.inr (.inr q)))
     by_cases f : 48 ≤ z
     ·have g : ¬ z ≤ 57 := fun q => d ⟨f, q⟩
      simp [g, o1, o2, o3, o4]
     ·simp [f, o1, o2, o3, o4]
    rw [s, e]
    by_cases f : 48 ≤ z
    ·exact .n1 a (by simpa using c) f (by omega) (by simp; omega) (by simp; omega) (by simp; omega) (by simp; omega)
    ·exact .n3 a (by simpa using c) f (by simp; omega) (by simp; omega) (by simp; omega) (by simp; omega)
theorem nmd_step {l : List Int} {k : Nat} (hl : 0 < k → isLow (l.getD 0 0) = true) (ha : ∀ j, j < k → isSign (l.getD j 0) = true) (hs : isSign (l.getD k 0) = true) (h0 : k = 0 → isLow (l.getD k 0) = true) : (0 < k + 1 → isLow (l.getD 0 0) = true) ∧ ∀ j, j < k + 1 → isSign (l.getD j 0) = true := by
 refine ⟨fun _ => ?_, fun j hj => ?_⟩
 ·by_cases e : k = 0
  ·have := h0 e
   rw [e] at this
   exact this
  ·exact hl (by omega)
 ·by_cases e : j = k
  ·rw [e]; exact hs
  ·exact ha j (by omega)
theorem nmd_low {l : List Int} (h : isLow (l.getD 0 0) = false) : nmd l = false := by unfold nmd; rw [h]; simp
set_option maxRecDepth 100000 in
set_option maxHeartbeats 4000000 in
theorem Named_any (l : List Int) (hb : Pl.isB l) (hl : l.length ≤ 16777216) (w : World) : Calls Tryz.prog 28 #[.string (strOfNums l)] w fun e w' => e = .returned (.bool (nmd l)) ∧ w' = w := by
 have hsz := str_size l
 by_cases q0 : l.length < 1
 ·have e : nmd l = false := by unfold nmd; simp [show ¬ 1 ≤ l.length from by omega]
  rw [e]
  generalize strOfNums l = S at *
  go_enter Tryz.func28, Tryz.ntmps28
  go_wp2
  go_ret
  exact ⟨rfl, rfl⟩
 by_cases q1 : 31 < l.length
 ·have e : nmd l = false := by unfold nmd; simp [show ¬ l.length ≤ 31 from by omega]
  rw [e]
  generalize strOfNums l = S at *
  go_enter Tryz.func28, Tryz.ntmps28
  go_wp2
  go_ret
  exact ⟨rfl, rfl⟩
 have HX := hid (fun i hi h => str_get l hb i hi h)
 generalize strOfNums l = S at *
 clear hb
 go_enter Tryz.func28, Tryz.ntmps28
 go_wp2_with fail
 go_loop [3] (fun i => ∃ k : Nat, k ≤ l.length ∧ i = .int .i64 (k : Int) ∧ (0 < k → isLow (l.getD 0 0) = true) ∧ ∀ j, j < k → isSign (l.getD j 0) = true) (fun i => l.length - (intOf i).toNat)
 case atStart => exact ⟨0, Nat.zero_le _, rfl, fun h => absurd h (by omega), fun j hj => by omega⟩
 case round =>
  obtain ⟨k, hk, rfl, hlow, hall⟩ := hrel
  by_cases hkn : k < l.length
  ·have hix := HX.out k hkn
   have HA := hid hall
   have HL := hid hlow
   have hsg := sgn_of (l.getD k 0)
   clear hall hlow
   generalize hzz : l.getD k 0 = z at *
   have HZ := hid hzz
   clear hzz
   generalize hlw : isLow z = lw at *
   generalize hsn : isSign z = sn at *
   have HLW := hid hlw
   have HSN := hid hsn
   clear hlw hsn
   have hss : sn = true → isSign (l.getD k 0) = true := fun e => by rw [HZ.out, HSN.out, e]
   have hlo : lw = true → isLow (l.getD k 0) = true := fun e => by rw [HZ.out, HLW.out, e]
   have hns : sn = false → nmd l = false := fun e => nmd_no hkn (by rw [HZ.out, HSN.out, e])
   have hnl : lw = false → k = 0 → nmd l = false := fun e e0 => by
    subst e0
    exact nmd_low (by rw [HZ.out, HLW.out, e])
   clear HZ HLW HSN
   rcases hsg with ⟨rfl, rfl, h1, h2⟩ | ⟨rfl, rfl, h1, h2, h3⟩ | ⟨rfl, rfl, h1, h2, h3, h4⟩ | ⟨q, rfl, rfl, hq, hqs⟩ | ⟨rfl, rfl, h1, h2, h3, h4, h5, h6, h7, h8⟩ | ⟨rfl, rfl, h1, h2, h3, h4, h5, h6, h7, h8, h9⟩ | ⟨rfl, rfl, h1, h2, h3, h4, h5, h6, h7⟩
   ·skip
    have HSS := hid (hss rfl)
    have HL0 := hid (fun (_ : k = 0) => hlo rfl)
    clear hss hlo hns hnl
    go_wp2
    go_round
    case rel => exact ⟨k + 1, by omega, by go_num, nmd_step HL.out HA.out HSS.out HL0.out⟩
    case measure => simp [intOf]; omega
   ·skip
    have HSS := hid (hss rfl)
    have HL0 := hid (fun (_ : k = 0) => hlo rfl)
    clear hss hlo hns hnl
    subst h3
    clear h1 h2
    go_wp2
    go_round
    case rel => exact ⟨k + 1, by omega, by go_num, nmd_step HL.out HA.out HSS.out HL0.out⟩
    case measure => simp [intOf]; omega
   ·skip
    by_cases hk0 : k = 0
    ·have HNO := hid (hnl rfl hk0)
     clear hss hlo hns hnl HL HA
     subst hk0
     go_wp2
     go_ret
     exact ⟨by rw [HNO.out]; rfl, rfl⟩
    ·have HSS := hid (hss rfl)
     have HL0 := hid (fun (e : k = 0) => (absurd e hk0 : isLow (l.getD k 0) = true))
     clear hss hlo hns hnl
     go_wp2
     go_round
     case rel => exact ⟨k + 1, by omega, by go_num, nmd_step HL.out HA.out HSS.out HL0.out⟩
     case measure => simp [intOf]; omega
   ·skip
    by_cases hk0 : k = 0
    ·have HNO := hid (hnl rfl hk0)
     clear hss hlo hns hnl HL HA
     subst hk0
     rcases hqs with rfl | rfl | rfl | rfl <;> subst hq
     all_goals
      go_wp2
      go_ret
      exact ⟨by rw [HNO.out]; rfl, rfl⟩
    ·have HSS := hid (hss rfl)
     have HL0 := hid (fun (e : k = 0) => (absurd e hk0 : isLow (l.getD k 0) = true))
     clear hss hlo hns hnl
     rcases hqs with rfl | rfl | rfl | rfl <;> subst hq
     all_goals
      go_wp2
      go_round
      case rel => exact ⟨k + 1, by omega, by go_num, nmd_step HL.out HA.out HSS.out HL0.out⟩
      case measure => simp [intOf]; omega
   ·skip
    by_cases hk0 : k = 0
    ·have HNO := hid (hnl rfl hk0)
     clear hss hlo hns hnl HL HA
     subst hk0
     go_wp2
     go_ret
     exact ⟨by rw [HNO.out]; rfl, rfl⟩
    ·have HNO := hid (hns rfl)
     clear hss hlo hns hnl HL HA
     go_wp2
     go_ret
     exact ⟨by rw [HNO.out]; rfl, rfl⟩
   ·skip
    by_cases hk0 : k = 0
    ·have HNO := hid (hnl rfl hk0)
     clear hss hlo hns hnl HL HA
     subst hk0
     go_wp2
     go_ret
     exact ⟨by rw [HNO.out]; rfl, rfl⟩
    ·have HNO := hid (hns rfl)
     clear hss hlo hns hnl HL HA
     go_wp2
     go_ret
     exact ⟨by rw [HNO.out]; rfl, rfl⟩
   ·skip
    by_cases hk0 : k = 0
    ·have HNO := hid (hnl rfl hk0)
     clear hss hlo hns hnl HL HA
     subst hk0
     go_wp2
     go_ret
     exact ⟨by rw [HNO.out]; rfl, rfl⟩
    ·have HNO := hid (hns rfl)
     clear hss hlo hns hnl HL HA
     go_wp2
     go_ret
     exact ⟨by rw [HNO.out]; rfl, rfl⟩
  ·go_wp2
   go_ret
   refine ⟨?_, rfl⟩
   have ha : l.all isSign = true := by
    rw [List.all_eq_true]
    intro x hx
    obtain ⟨i, hi, rfl⟩ := List.getElem_of_mem hx
    have := hall i (by omega)
    rw [List.getD_eq_getElem?_getD, List.getElem?_eq_getElem hi] at this
    exact this
   have e : nmd l = true := by
    unfold nmd
    rw [ha, hlow (by omega)]
    simp
    omega
   rw [e]
   rfl
theorem Named_s (s : ByteArray) (hs : s.size ≤ 16777216) (w : World) : Calls Tryz.prog 28 #[.string s] w fun e w' => e = .returned (.bool (nmB s)) ∧ w' = w := by
 have h := Named_any (nums s) (isB_nums s) (by rw [length_nums]; exact hs) w
 rw [str_nums] at h
 exact h
end Go.Proofs.YtddddfankeepkaaGreatDoor
namespace Go.Proofs.YtddddfankeepkaaGreatDoor
open Go.RowKit
def rgO : List Rg → Int → Int → Bool
 | [], _, _ => true
 | r :: l, b, sz => if r.f ≤ b then false else if r.t ≤ r.f then false else if sz < r.t then false else rgO l r.t sz
theorem rgO_at {rs : List Rg} {k : Nat} (hk : k < rs.length) (b sz : Int) : rgO (rs.drop k) b sz = if rs[k].f ≤ b then false else if rs[k].t ≤ rs[k].f then false else if sz < rs[k].t then false else rgO (rs.drop (k + 1)) rs[k].t sz := by
 rw [List.drop_eq_getElem_cons hk]
 rfl
def BoD (w : World) (b : Bool) (e : Ending) (w' : World) : Prop := e = .returned (.bool b) ∧ ∃ m, w' = w.drewN m
set_option maxRecDepth 100000 in
set_option maxHeartbeats 4000000 in
theorem ranges_any (a : Option Addr) (c : Nat) (rs : List Rg) (sz : Int) (w : World) (hl : rs.length ≤ 16777216) (hR : RdR w.heap.size w a rs) :
  Calls Tryz.prog 29 #[.slice a rs.length c, .int .i64 sz] w fun e w' => BoD w (rgO rs (-1) sz) e w' := by
 have HR := hid hR
 have HB0 : Hid (∃ m, w = w.drewN m) := hid ⟨0, rfl⟩
 obtain ⟨n, hn⟩ : ∃ n, n = rs.length := ⟨_, rfl⟩
 have HN := hid hn
 have hn16 : n ≤ 16777216 := by omega
 obtain ⟨z, hz⟩ : ∃ z, z = rgO rs (-1) sz := ⟨_, rfl⟩
 have HZ := hid hz
 rw [← hn, ← hz]
 clear hR hn hz hl
 go_enter Tryz.func29, Tryz.ntmps29
 go_wp2_with fail
 go_loopw [5, 6] (fun b iv wr => ∃ (k : Nat) (b' : Int), k ≤ n ∧ iv = .int .i64 (k : Int) ∧ b = .int .i64 b' ∧ z = rgO (rs.drop k) b' sz ∧ ∃ m, wr = w.drewN m) (fun _ iv _ => n - (intOf iv).toNat)
 case atStart => exact ⟨0, -1, Nat.zero_le _, rfl, rfl, by rw [HZ.out]; rfl, HB0.out⟩
 case round =>
  obtain ⟨k, b', hk, rfl, rfl, hzk, hb⟩ := hrel
  by_cases hlt : k < n
  ·have hkl : k < rs.length := by have := HN.out; omega
   obtain ⟨g, off, rfl, hgl, hc⟩ := (HR.out.below (show Below w.heap.size w wr by obtain ⟨m, e⟩ := hb; rw [e]; exact below_drewN _ _ _)).resolve_left (fun e => by rw [e] at hkl; simp at hkl)
   obtain ⟨c0, c1⟩ := hc k hkl
   have HB := hid hb
   rw [rgO_at hkl] at hzk
   have HZK := hid hzk
   have hl1 : (k : Int) < (n : Int) := by omega
   clear hb hzk hc hgl HR HB0 HZ
   generalize rs[k].f = f at *
   generalize rs[k].t = t at *
   by_cases h1 : f ≤ b'
   ·have HE : Hid (z = false) := hid (by rw [HZK.out, if_pos h1])
    clear HZK
    go_wp2_with fail
    go_quiet (fail)
    generalize hU : wr.drewN _ = U
    have c0U : U.cell? ⟨g, off + k * 2, none⟩ = some (.int .i64 f) := by rw [← hU]; exact c0
    have c1U : U.cell? ⟨g, off + k * 2 + 1, none⟩ = some (.int .i64 t) := by rw [← hU]; exact c1
    have HBU : Hid (∃ m, U = w.drewN m) := hid (by obtain ⟨m, e⟩ := HB.out; exact ⟨m + _, by rw [← hU, e, World.drewN_drewN]⟩)
    clear hU c0 c1
    go_wp2
    go_ret
    exact ⟨by rw [HE.out]; rfl, HBU.out⟩
   ·by_cases h2 : t ≤ f
    ·have HE : Hid (z = false) := hid (by rw [HZK.out, if_neg h1, if_pos h2])
     clear HZK
     go_wp2_with fail
     go_quiet (fail)
     generalize hU : wr.drewN _ = U
     have c0U : U.cell? ⟨g, off + k * 2, none⟩ = some (.int .i64 f) := by rw [← hU]; exact c0
     have c1U : U.cell? ⟨g, off + k * 2 + 1, none⟩ = some (.int .i64 t) := by rw [← hU]; exact c1
     have HBU : Hid (∃ m, U = w.drewN m) := hid (by obtain ⟨m, e⟩ := HB.out; exact ⟨m + _, by rw [← hU, e, World.drewN_drewN]⟩)
     clear hU c0 c1
     go_wp2
     go_ret
     exact ⟨by rw [HE.out]; rfl, HBU.out⟩
    ·by_cases h3 : sz < t
     ·have HE : Hid (z = false) := hid (by rw [HZK.out, if_neg h1, if_neg h2, if_pos h3])
      clear HZK
      go_wp2_with fail
      go_quiet (fail)
      generalize hU : wr.drewN _ = U
      have c0U : U.cell? ⟨g, off + k * 2, none⟩ = some (.int .i64 f) := by rw [← hU]; exact c0
      have c1U : U.cell? ⟨g, off + k * 2 + 1, none⟩ = some (.int .i64 t) := by rw [← hU]; exact c1
      have HBU : Hid (∃ m, U = w.drewN m) := hid (by obtain ⟨m, e⟩ := HB.out; exact ⟨m + _, by rw [← hU, e, World.drewN_drewN]⟩)
      clear hU c0 c1
      go_wp2
      go_ret
      exact ⟨by rw [HE.out]; rfl, HBU.out⟩
     ·have HE : Hid (z = rgO (rs.drop (k + 1)) t sz) := hid (by rw [HZK.out, if_neg h1, if_neg h2, if_neg h3])
      clear HZK
      go_wp2_with fail
      go_quiet (fail)
      generalize hU : wr.drewN _ = U
      have c0U : U.cell? ⟨g, off + k * 2, none⟩ = some (.int .i64 f) := by rw [← hU]; exact c0
      have c1U : U.cell? ⟨g, off + k * 2 + 1, none⟩ = some (.int .i64 t) := by rw [← hU]; exact c1
      have HBU : Hid (∃ m, U = w.drewN m) := hid (by obtain ⟨m, e⟩ := HB.out; exact ⟨m + _, by rw [← hU, e, World.drewN_drewN]⟩)
      clear hU c0 c1
      go_wp2
      go_roundw
      case rel => exact ⟨k + 1, t, by omega, by go_num, rfl, HE.out, HBU.out⟩
      case measure => simp [intOf]; omega
  ·have ein : k = n := by omega
   subst ein
   have HE : Hid (z = true) := hid (by rw [hzk, HN.out, List.drop_length]; rfl)
   have HB := hid hb
   have hl1 : ¬ (k : Int) < (k : Int) := by omega
   clear hb hzk HR HB0 HZ
   go_wp2
   go_ret
   exact ⟨by rw [HE.out]; rfl, HB.out⟩
end Go.Proofs.YtddddfankeepkaaGreatDoor
namespace Go.Proofs.YtddddfankeepkaaGreatDoor
open Go.RowKit
def mayH (x : VW) : Bool := if x.cp < 1 then false else if 262144 < x.cp then false else if x.fr < 0 then false else if x.cp < x.fr then false else if x.nx < 1 then false else if 1073741825 < x.nx then false else if 64 < (x.vs.length : Int) then false else true
set_option maxRecDepth 100000 in
set_option maxHeartbeats 8000000 in
theorem May_head (x : VW) (a : Option Addr) (c0 : Nat) (w : World) (hl : x.vs.length ≤ 16777216) (hh : mayH x = false) :
  Calls Tryz.prog 8 #[viewA x a c0] w fun e w' => BoQ w false e w' := by
 have HQ : Hid (∀ o w', w' = w.alloc o → BoQ w false (.returned (.bool false)) w') := hid (fun o w' e => ⟨rfl, by rw [e]; exact below1 _ _⟩)
 unfold mayH at hh
 dsimp only [viewA] at *
 obtain ⟨cp, fr, nx, vs⟩ := x
 dsimp only at *
 generalize vs.length = n at *
 by_cases h0 : cp < 1
 ·clear hh
  go_enter Tryz.func8, Tryz.ntmps8
  go_wp2
  go_ret
  exact HQ.out _ _ rfl
 rw [if_neg h0] at hh
 by_cases h1 : 262144 < cp
 ·clear hh
  go_enter Tryz.func8, Tryz.ntmps8
  go_wp2
  go_ret
  exact HQ.out _ _ rfl
 rw [if_neg h1] at hh
 by_cases h2 : fr < 0
 ·clear hh
  go_enter Tryz.func8, Tryz.ntmps8
  go_wp2
  go_ret
  exact HQ.out _ _ rfl
 rw [if_neg h2] at hh
 by_cases h3 : cp < fr
 ·clear hh
  go_enter Tryz.func8, Tryz.ntmps8
  go_wp2
  go_ret
  exact HQ.out _ _ rfl
 rw [if_neg h3] at hh
 by_cases h4 : nx < 1
 ·clear hh
  go_enter Tryz.func8, Tryz.ntmps8
  go_wp2
  go_ret
  exact HQ.out _ _ rfl
 rw [if_neg h4] at hh
 by_cases h5 : 1073741825 < nx
 ·clear hh
  go_enter Tryz.func8, Tryz.ntmps8
  go_wp2
  go_ret
  exact HQ.out _ _ rfl
 rw [if_neg h5] at hh
 by_cases h6 : 64 < (n : Int)
 ·clear hh
  go_enter Tryz.func8, Tryz.ntmps8
  go_wp2
  go_ret
  exact HQ.out _ _ rfl
 rw [if_neg h6] at hh
 exact absurd hh (by simp)
end Go.Proofs.YtddddfankeepkaaGreatDoor
namespace Go.Proofs.YtddddfankeepkaaGreatDoor
open Go.RowKit
theorem mayH_yes {x : VW} (h : mayH x = true) : ¬ x.cp < 1 ∧ ¬ 262144 < x.cp ∧ ¬ x.fr < 0 ∧ ¬ x.cp < x.fr ∧ ¬ x.nx < 1 ∧ ¬ 1073741825 < x.nx ∧ ¬ 64 < (x.vs.length : Int) := by
 unfold mayH at h
 repeat (split at h; exact absurd h (by simp))
 refine ⟨?_, ?_, ?_, ?_, ?_, ?_, ?_⟩ <;> assumption
def nmLe (a b : ByteArray) : Bool := Op.bytesLess a.toList b.toList || a.toList == b.toList
def volN (v : PV) (nx : Int) : Bool := if v.id < 1 then false else if nx ≤ v.id then false else if v.sz < 1 then false else if 262144 < v.sz then false else if v.og < 0 then false else if v.id ≤ v.og then false else true
def volK (v : PV) : Bool := if v.kd = 0 then rgO v.mp (-1) v.sz else if v.kd = 1 then rgO v.mp (-1) v.sz else false
def volM (x : VW) (k : Nat) (h : k < x.vs.length) : Bool := nmB x.vs[k].nm && (decide (k = 0) || !nmLe x.vs[k].nm (x.vs[k - 1]'(by omega)).nm) && volN x.vs[k] x.nx && volK x.vs[k] && (x.vs.take k).all (fun v => !(v.id == x.vs[k].id))
def mayB (x : VW) : Bool := mayH x && (List.finRange x.vs.length).all (fun i => volM x i.1 i.2)
theorem mayB_no {x : VW} {k : Nat} (hk : k < x.vs.length) (h : volM x k hk = false) : mayB x = false := by
 unfold mayB
 have e : (List.finRange x.vs.length).all (fun i => volM x i.1 i.2) = false := by
  rw [List.all_eq_false]
  exact ⟨⟨k, hk⟩, List.mem_finRange _, by simp [h]⟩
 rw [e, Bool.and_false]
theorem mayB_yes {x : VW} (h0 : mayH x = true) (h : ∀ k (hk : k < x.vs.length), volM x k hk = true) : mayB x = true := by
 unfold mayB
 rw [h0, Bool.true_and, List.all_eq_true]
 exact fun i _ => h i.1 i.2
theorem nmLe_ways {a b : ByteArray} (h : nmLe a b = true) : Op.bytesLess a.toList b.toList = true ∨ (Op.bytesLess a.toList b.toList = false ∧ (a.toList == b.toList) = true) := by
 unfold nmLe at h
 cases e : Op.bytesLess a.toList b.toList
 ·rw [e, Bool.false_or] at h; exact .inr ⟨rfl, h⟩
 ·exact .inl rfl
theorem nmLe_no {a b : ByteArray} (h : nmLe a b = false) : Op.bytesLess a.toList b.toList = false ∧ (a.toList == b.toList) = false := by
 unfold nmLe at h
 exact Bool.or_eq_false_iff.1 h
theorem volM_name {x : VW} {k : Nat} (hk : k < x.vs.length) (h : nmB x.vs[k].nm = false) : volM x k hk = false := by unfold volM; rw [h]; simp
theorem volM_le {x : VW} {m : Nat} (hk : m + 1 < x.vs.length) (h : nmLe x.vs[m + 1].nm x.vs[m].nm = true) : volM x (m + 1) hk = false := by
 unfold volM
 simp only [Nat.add_sub_cancel, h]
 simp
theorem volM_num {x : VW} {k : Nat} (hk : k < x.vs.length) (h : volN x.vs[k] x.nx = false) : volM x k hk = false := by unfold volM; rw [h]; simp
theorem volM_kind {x : VW} {k : Nat} (hk : k < x.vs.length) (h : volK x.vs[k] = false) : volM x k hk = false := by unfold volM; rw [h]; simp
theorem volM_twice {x : VW} {k j : Nat} (hk : k < x.vs.length) (hj : j < k) (h : (x.vs[j]'(by omega)).id = x.vs[k].id) : volM x k hk = false := by
 unfold volM
 have e : (x.vs.take k).all (fun v => !(v.id == x.vs[k].id)) = false := by
  rw [List.all_eq_false]
  exact ⟨x.vs[j]'(by omega), List.mem_iff_getElem.2 ⟨j, by rw [List.length_take]; omega, by rw [List.getElem_take]⟩, by simp [h]⟩
 rw [e, Bool.and_false]
theorem volM_all {x : VW} {k : Nat} (hk : k < x.vs.length) (h1 : nmB x.vs[k].nm = true) (h2 : k = 0 ∨ nmLe x.vs[k].nm (x.vs[k - 1]'(by omega)).nm = false) (h3 : volN x.vs[k] x.nx = true) (h4 : volK x.vs[k] = true) (h5 : ∀ j (hj : j < k), (x.vs[j]'(by omega)).id ≠ x.vs[k].id) : volM x k hk = true := by
 unfold volM
 have e : (x.vs.take k).all (fun v => !(v.id == x.vs[k].id)) = true := by
  rw [List.all_eq_true]
  intro v hv
  obtain ⟨j, hj, rfl⟩ := List.getElem_of_mem hv
  rw [List.length_take] at hj
  rw [List.getElem_take]
  simpa using h5 j (by omega)
 rw [e, h1, h3, h4]
 rcases h2 with h2 | h2
 ·simp [h2]
 ·simp [h2]
end Go.Proofs.YtddddfankeepkaaGreatDoor
namespace Go.Proofs.YtddddfankeepkaaGreatDoor
open Go.RowKit
/-! ### names in order -/
theorem bl_irrefl : ∀ a : List UInt8, Op.bytesLess a a = false
 | [] => rfl
 | x :: l => by simp [Op.bytesLess, bl_irrefl l]
theorem bl_trans : ∀ a b c : List UInt8, Op.bytesLess a b = true → Op.bytesLess b c = true → Op.bytesLess a c = true
 | _, _, [], _, h => by simp [Op.bytesLess] at h
 | [], _, _ :: _, _, _ => by simp [Op.bytesLess]
 | _ :: _, [], _ :: _, h, _ => by simp [Op.bytesLess] at h
 | x :: a, y :: b, z :: c, h1, h2 => by
  simp only [Op.bytesLess, Bool.or_eq_true, decide_eq_true_eq, Bool.and_eq_true, beq_iff_eq] at *
  rcases h1 with h1 | ⟨rfl, h1⟩
  ·rcases h2 with h2 | ⟨rfl, h2⟩
   ·exact .inl (UInt8.lt_trans h1 h2)
   ·exact .inl h1
  ·rcases h2 with h2 | ⟨rfl, h2⟩
   ·exact .inl h2
   ·exact .inr ⟨rfl, bl_trans a b c h1 h2⟩
theorem bl_tri : ∀ a b : List UInt8, Op.bytesLess a b = false → Op.bytesLess b a = false → a = b
 | [], [], _, _ => rfl
 | [], _ :: _, h, _ => by simp [Op.bytesLess] at h
 | _ :: _, [], _, h => by simp [Op.bytesLess] at h
 | x :: a, y :: b, h1, h2 => by
  simp only [Op.bytesLess, Bool.or_eq_false_iff, decide_eq_false_iff_not, Bool.and_eq_false_iff, beq_eq_false_iff_ne, ne_eq] at *
  have e : x = y := UInt8.le_antisymm (UInt8.not_lt.1 h2.1) (UInt8.not_lt.1 h1.1)
  subst e
  rw [bl_tri a b (h1.2.resolve_left (fun h => h rfl)) (h2.2.resolve_left (fun h => h rfl))]
theorem cmp_less : ∀ a b : List UInt8, Lib.compareBytes a b < 0 ↔ Op.bytesLess a b = true
 | [], [] => by simp [Lib.compareBytes, Op.bytesLess]
 | [], _ :: _ => by simp [Lib.compareBytes, Op.bytesLess]
 | _ :: _, [] => by simp [Lib.compareBytes, Op.bytesLess]
 | x :: a, y :: b => by
  unfold Lib.compareBytes
  simp only [Op.bytesLess, Bool.or_eq_true, decide_eq_true_eq, Bool.and_eq_true, beq_iff_eq]
  by_cases h1 : x < y
  ·rw [if_pos h1]; exact ⟨fun _ => .inl h1, fun _ => by decide⟩
  ·rw [if_neg h1]
   by_cases h2 : y < x
   ·rw [if_pos h2]
    refine ⟨fun h => absurd h (by decide), fun h => ?_⟩
    rcases h with h | ⟨rfl, _⟩
    ·exact absurd h h1
    ·exact absurd h2 h1
   ·rw [if_neg h2, cmp_less a b]
    have e : x = y := UInt8.le_antisymm (UInt8.not_lt.1 h2) (UInt8.not_lt.1 h1)
    exact ⟨fun h => .inr ⟨e, h⟩, fun h => (h.resolve_left h1).2⟩
def ltS (a b : ByteArray) : Prop := Op.bytesLess a.toList b.toList = true
theorem ltS_irrefl (a : ByteArray) : ¬ ltS a a := by unfold ltS; rw [bl_irrefl]; simp
theorem ltS_trans {a b c : ByteArray} (h1 : ltS a b) (h2 : ltS b c) : ltS a c := bl_trans _ _ _ h1 h2
theorem ltS_asymm {a b : ByteArray} (h1 : ltS a b) : ¬ ltS b a := fun h => ltS_irrefl a (ltS_trans h1 h)
theorem ltS_ne {a b : ByteArray} (h : ltS a b) : a ≠ b := fun e => ltS_irrefl b (by rw [e] at h; exact h)
theorem ltS_tri {a b : ByteArray} (h1 : ¬ ltS a b) (h2 : a ≠ b) : ltS b a := by
 unfold ltS at *
 cases e : Op.bytesLess b.toList a.toList
 ·exact absurd (str_toList.1 (bl_tri _ _ (by simpa using h1) e)) h2
 ·rfl
theorem cmpN_lt (a b : ByteArray) : cmpN a b < 0 ↔ ltS a b := by
 unfold cmpN ltS
 rw [cmp_less, ByteArray.toList_eq, ByteArray.toList_eq]
theorem nmLe_false {a b : ByteArray} (h : nmLe a b = false) : ltS b a := by
 unfold nmLe at h
 rw [Bool.or_eq_false_iff] at h
 refine ltS_tri (by unfold ltS; rw [h.1]; simp) (fun e => ?_)
 rw [e] at h
 simp at h
theorem nmLe_of_lt {a b : ByteArray} (h : ltS b a) : nmLe a b = false := by
 unfold nmLe
 rw [Bool.or_eq_false_iff]
 refine ⟨by have := ltS_asymm h; unfold ltS at this; simpa using this, ?_⟩
 simp only [beq_eq_false_iff_ne, ne_eq, str_toList]
 exact fun e => ltS_ne h e.symm
/-! ### the search by halves of what turns once -/
theorem srch_spec (p : Nat → Bool) (n : Nat) (hm : ∀ a b, a ≤ b → b < n → p a = true → p b = true) : ∀ (d i j : Nat), i ≤ j → j ≤ n → j - i ≤ d → (∀ h, h < i → p h = false) → (∀ h, j ≤ h → h < n → p h = true) → (∀ h, h < srch p d i j → p h = false) ∧ (∀ h, srch p d i j ≤ h → h < n → p h = true)
 | 0, i, j, hij, hjn, hd, h1, h2 => by
  have : i = j := by omega
  subst this
  exact ⟨h1, h2⟩
 | d + 1, i, j, hij, hjn, hd, h1, h2 => by
  unfold srch
  by_cases hlt : i < j
  ·rw [if_pos hlt]
   by_cases hp : p ((i + j) / 2) = true
   ·rw [if_pos hp]
    exact srch_spec p n hm d i ((i + j) / 2) (by omega) (by omega) (by omega) h1 (fun h ha hb => hm _ h ha hb hp)
   ·rw [if_neg hp]
    refine srch_spec p n hm d ((i + j) / 2 + 1) j (by omega) hjn (by omega) (fun h ha => ?_) h2
    cases e : p h
    ·rfl
    ·exact absurd (hm h ((i + j) / 2) (by omega) (by omega) e) hp
  ·rw [if_neg hlt]
   have : i = j := by omega
   subst this
   exact ⟨h1, h2⟩
theorem srch_all (p : Nat → Bool) (n : Nat) (hm : ∀ a b, a ≤ b → b < n → p a = true → p b = true) : (∀ h, h < srch p n 0 n → p h = false) ∧ (∀ h, srch p n 0 n ≤ h → h < n → p h = true) :=
 srch_spec p n hm n 0 n (by omega) (by omega) (by omega) (fun h ha => by omega) (fun h ha hb => by omega)
/-! ### volumes by name -/
def ltV (a b : PV) : Prop := ltS a.nm b.nm
theorem getD_lt {α : Type} {l : List α} {d : α} {k : Nat} (h : k < l.length) : l.getD k d = l[k] := by
 rw [List.getD_eq_getElem?_getD, List.getElem?_eq_getElem h]; rfl
theorem pw_get {vs : List PV} (h : vs.Pairwise ltV) {i j : Nat} (hi : i < vs.length) (hj : j < vs.length) (hij : i < j) : ltS vs[i].nm vs[j].nm := (List.pairwise_iff_getElem.1 h) i j hi hj hij
theorem layI_spec {vs : List PV} (h : vs.Pairwise ltV) (nm : ByteArray) : (∀ k (hk : k < vs.length), k < layI vs nm → ltS vs[k].nm nm) ∧ (∀ k (hk : k < vs.length), layI vs nm ≤ k → ¬ ltS vs[k].nm nm) := by
 have := srch_all (fun h => !decide (cmpN (vs.getD h PV0).nm nm < 0)) vs.length (fun a b hab hb hp => by
  rw [getD_lt (Nat.lt_of_le_of_lt hab hb)] at hp
  rw [getD_lt hb]
  simp only [Bool.not_eq_true', decide_eq_false_iff_not, cmpN_lt] at *
  intro hq
  by_cases e : a = b
  ·subst e; exact hp hq
  ·exact hp (ltS_trans (pw_get h (Nat.lt_of_le_of_lt hab hb) hb (by omega)) hq))
 refine ⟨fun k hk hl => ?_, fun k hk hl => ?_⟩
 ·have := this.1 k hl
  rw [getD_lt hk] at this
  simpa [cmpN_lt] using this
 ·have := this.2 k hl hk
  rw [getD_lt hk] at this
  simpa [cmpN_lt] using this
theorem lay_take {vs : List PV} (h : vs.Pairwise ltV) (nm : ByteArray) : ∀ u ∈ vs.take (layI vs nm), ltS u.nm nm := by
 intro u hu
 obtain ⟨k, hk, rfl⟩ := List.getElem_of_mem hu
 rw [List.length_take] at hk
 rw [List.getElem_take]
 exact (layI_spec h nm).1 k (by omega) (by omega)
theorem lay_drop {vs : List PV} (h : vs.Pairwise ltV) {nm : ByteArray} (hf : ∀ u ∈ vs, u.nm ≠ nm) : ∀ u ∈ vs.drop (layI vs nm), ltS nm u.nm := by
 intro u hu
 obtain ⟨k, hk, rfl⟩ := List.getElem_of_mem hu
 rw [List.length_drop] at hk
 rw [List.getElem_drop]
 exact ltS_tri ((layI_spec h nm).2 _ (by omega) (by omega)) (hf _ (List.getElem_mem _))
theorem lay_sorted {vs : List PV} (h : vs.Pairwise ltV) {v : PV} (hf : ∀ u ∈ vs, u.nm ≠ v.nm) : (layP vs v).Pairwise ltV := by
 unfold layP
 rw [List.append_assoc, List.pairwise_append]
 refine ⟨h.sublist (List.take_sublist _ _), ?_, ?_⟩
 ·rw [List.singleton_append, List.pairwise_cons]
  exact ⟨fun u hu => lay_drop h hf u hu, h.sublist (List.drop_sublist _ _)⟩
 ·intro a ha b hb
  rw [List.mem_append, List.mem_singleton] at hb
  rcases hb with rfl | hb
  ·exact lay_take h _ a ha
  ·exact ltS_trans (lay_take h v.nm a ha) (lay_drop h hf b hb)
theorem lay_mem {vs : List PV} {v u : PV} : u ∈ layP vs v ↔ u = v ∨ u ∈ vs := by
 unfold layP
 conv => rhs; rw [← List.take_append_drop (layI vs v.nm) vs]
 simp only [List.mem_append, List.mem_singleton]
 constructor
 ·rintro ((h | h) | h)
  ·exact .inr (.inl h)
  ·exact .inl h
  ·exact .inr (.inr h)
 ·rintro (h | h | h)
  ·exact .inl (.inr h)
  ·exact .inl (.inl h)
  ·exact .inr h
theorem lay_len (vs : List PV) (v : PV) : (layP vs v).length = vs.length + 1 := by
 have := layI_le vs v.nm
 unfold layP
 simp only [List.length_append, List.length_take, List.length_drop, List.length_singleton]
 omega
theorem plc_none {vs : List PV} {nm : ByteArray} (h : ∀ v ∈ vs, v.nm ≠ nm) : plcF vs nm 0 = -1 := by
 rcases plcF_spec vs nm 0 with ⟨e, _⟩ | ⟨i, hi, _, he⟩
 ·exact e
 ·exact absurd he (h _ (List.getElem_mem hi))
theorem plc_free {vs : List PV} {nm : ByteArray} (h : plcF vs nm 0 < 0) : ∀ v ∈ vs, v.nm ≠ nm := by
 rcases plcF_spec vs nm 0 with ⟨_, e⟩ | ⟨i, hi, e, _⟩
 ·exact e
 ·omega
theorem plc_there {vs : List PV} {nm : ByteArray} (h : 0 ≤ plcF vs nm 0) : ∃ k, ∃ hk : k < vs.length, plcF vs nm 0 = (k : Int) ∧ vs[k].nm = nm := by
 rcases plcF_spec vs nm 0 with ⟨e, _⟩ | ⟨i, hi, e, he⟩
 ·omega
 ·exact ⟨i, hi, by rw [e, Nat.zero_add], he⟩
theorem lay_erase {vs : List PV} (h : vs.Pairwise ltV) {k : Nat} (hk : k < vs.length) : layP (vs.eraseIdx k) vs[k] = vs := by
 have hs : (vs.eraseIdx k).Pairwise ltV := h.sublist (List.eraseIdx_sublist vs k)
 have hl := List.length_eraseIdx_of_lt hk
 have hsp := layI_spec hs vs[k].nm
 have hle := layI_le (vs.eraseIdx k) vs[k].nm
 have e : layI (vs.eraseIdx k) vs[k].nm = k := by
  rcases Nat.lt_trichotomy (layI (vs.eraseIdx k) vs[k].nm) k with q | q | q
  ·exfalso
   have h2 := hsp.2 (layI (vs.eraseIdx k) vs[k].nm) (by omega) (Nat.le_refl _)
   rw [List.getElem_eraseIdx_of_lt (by omega) q] at h2
   exact h2 (pw_get h (by omega) hk q)
  ·exact q
  ·exfalso
   have h2 := hsp.1 k (by omega) q
   rw [List.getElem_eraseIdx_of_ge (by omega) (Nat.le_refl _)] at h2
   exact ltS_asymm h2 (pw_get h hk (by omega) (by omega))
 unfold layP
 have e1 : (vs.take k).length = k := by rw [List.length_take]; omega
 rw [e, List.eraseIdx_eq_take_drop_succ, List.take_append_of_le_length (by omega), List.take_of_length_le (by omega), List.drop_append_of_le_length (by omega), List.drop_of_length_le (by omega), List.nil_append, List.append_assoc, List.singleton_append, List.getElem_cons_drop, List.take_append_drop]
end Go.Proofs.YtddddfankeepkaaGreatDoor
namespace Go.Proofs.YtddddfankeepkaaGreatDoor
open Go.RowKit
theorem pw64 {n : Int} (h : -9223372036854775808 ≤ n ∧ n ≤ 9223372036854775807) : wrap64 n = n := by unfold wrap64; omega
/-! ### ranges in their one form -/
structure NF (b : Int) (rs : List Rg) (sz : Int) : Prop where
 all : ∀ r ∈ rs, b < r.f ∧ r.f < r.t ∧ r.t ≤ sz
 apart : rs.Pairwise (fun a c => a.t < c.f)
theorem rgO_nf : ∀ (rs : List Rg) (b sz : Int), rgO rs b sz = true ↔ NF b rs sz
 | [], b, sz => ⟨fun _ => ⟨by simp, List.Pairwise.nil⟩, fun _ => rfl⟩
 | r :: l, b, sz => by
  unfold rgO
  constructor
  ·intro h
   split at h
   ·exact absurd h (by simp)
   split at h
   ·exact absurd h (by simp)
   split at h
   ·exact absurd h (by simp)
   have ih := (rgO_nf l r.t sz).1 h
   refine ⟨?_, List.pairwise_cons.2 ⟨fun c hc => (ih.all c hc).1, ih.apart⟩⟩
   intro q hq
   rcases List.mem_cons.1 hq with rfl | hq
   ·omega
   ·have := ih.all q hq; omega
  ·intro h
   have h1 := h.all r (by simp)
   rw [if_neg (by omega), if_neg (by omega), if_neg (by omega)]
   obtain ⟨h2, h3⟩ := List.pairwise_cons.1 h.apart
   exact (rgO_nf l r.t sz).2 ⟨fun c hc => ⟨h2 c hc, (h.all c (by simp [hc])).2⟩, h3⟩
theorem NF.nil (b sz : Int) : NF b [] sz := ⟨by simp, List.Pairwise.nil⟩
theorem NF.get {b sz : Int} {rs : List Rg} (h : NF b rs sz) {i j : Nat} (hi : i < rs.length) (hj : j < rs.length) (hij : i < j) : rs[i].t < rs[j].f := (List.pairwise_iff_getElem.1 h.apart) i j hi hj hij
theorem NF.at' {b sz : Int} {rs : List Rg} (h : NF b rs sz) {i : Nat} (hi : i < rs.length) : b < rs[i].f ∧ rs[i].f < rs[i].t ∧ rs[i].t ≤ sz := h.all _ (List.getElem_mem hi)
theorem metI_spec {b sz : Int} {rs : List Rg} (h : NF b rs sz) (r : Rg) : (∀ k (hk : k < rs.length), k < metI rs r → rs[k].t ≤ r.f) ∧ (∀ k (hk : k < rs.length), metI rs r ≤ k → r.f < rs[k].t) := by
 have := srch_all (fun h => decide (r.f < (rs.getD h ⟨0, 0⟩).t)) rs.length (fun x y hab hb hp => by
  rw [getD_lt (Nat.lt_of_le_of_lt hab hb)] at hp
  rw [getD_lt hb]
  simp only [decide_eq_true_eq] at *
  by_cases e : x = y
  ·subst e; exact hp
  ·have := h.get (Nat.lt_of_le_of_lt hab hb) hb (by omega)
   have := h.at' hb
   omega)
 refine ⟨fun k hk hl => ?_, fun k hk hl => ?_⟩
 ·have := this.1 k hl
  rw [getD_lt hk] at this
  simpa using this
 ·have := this.2 k hl hk
  rw [getD_lt hk] at this
  simpa using this
theorem metJ_spec {b sz : Int} {rs : List Rg} (h : NF b rs sz) (r : Rg) : (∀ k (hk : k < rs.length), metI rs r ≤ k → k < metI rs r + metJ rs r → rs[k].f < r.t) ∧ (∀ k (hk : k < rs.length), metI rs r + metJ rs r ≤ k → r.t ≤ rs[k].f) := by
 have hI := metI_le rs r
 have hD : ∀ k, k < rs.length - metI rs r → ∃ hk : metI rs r + k < rs.length, (rs.drop (metI rs r)).getD k ⟨0, 0⟩ = rs[metI rs r + k] := fun k hk => by
  refine ⟨by omega, ?_⟩
  rw [getD_lt (by rw [List.length_drop]; exact hk), List.getElem_drop]
 have := srch_all (fun h => decide (r.t ≤ ((rs.drop (metI rs r)).getD h ⟨0, 0⟩).f)) (rs.length - metI rs r) (fun x y hab hb hp => by
  obtain ⟨q1, e1⟩ := hD x (by omega)
  obtain ⟨q2, e2⟩ := hD y hb
  rw [e1] at hp
  rw [e2]
  simp only [decide_eq_true_eq] at *
  by_cases e : x = y
  ·subst e; exact hp
  ·have := h.get q1 q2 (by omega)
   have := h.at' q1
   omega)
 refine ⟨fun k hk h1 hl => ?_, fun k hk hl => ?_⟩
 ·obtain ⟨q1, e1⟩ := hD (k - metI rs r) (by omega)
  have := this.1 (k - metI rs r) (by show _ < metJ rs r; omega)
  rw [e1] at this
  simp only [decide_eq_false_iff_not, Int.not_le, show metI rs r + (k - metI rs r) = k by omega] at this
  exact this
 ·obtain ⟨q1, e1⟩ := hD (k - metI rs r) (by omega)
  have := this.2 (k - metI rs r) (by show metJ rs r ≤ _; omega) (by omega)
  rw [e1] at this
  simp only [decide_eq_true_eq, show metI rs r + (k - metI rs r) = k by omega] at this
  exact this
theorem NF.spl {b sz : Int} {rs : List Rg} (h : NF b rs sz) {i j : Nat} (hij : i ≤ j) {ys : List Rg} {sz' : Int} (hs : NF b ys sz') (h1 : ∀ k (hk : k < rs.length), k < i → rs[k].t ≤ sz' ∧ ∀ y ∈ ys, rs[k].t < y.f) (h2 : ∀ k (hk : k < rs.length), j ≤ k → rs[k].t ≤ sz' ∧ ∀ y ∈ ys, y.t < rs[k].f) : NF b (spl rs i j ys) sz' := by
 have mt : ∀ r ∈ rs.take i, ∃ k, ∃ hk : k < rs.length, k < i ∧ r = rs[k] := fun r hr => by
  obtain ⟨k, hk, rfl⟩ := List.getElem_of_mem hr
  rw [List.length_take] at hk
  exact ⟨k, by omega, by omega, List.getElem_take⟩
 have md : ∀ r ∈ rs.drop j, ∃ k, ∃ hk : k < rs.length, j ≤ k ∧ r = rs[k] := fun r hr => by
  obtain ⟨k, hk, rfl⟩ := List.getElem_of_mem hr
  rw [List.length_drop] at hk
  exact ⟨j + k, by omega, by omega, List.getElem_drop⟩
 unfold YtddddfankeepkaaGreatDoor.spl
 refine ⟨?_, ?_⟩
 ·intro r hr
  simp only [List.mem_append] at hr
  rcases hr with (hr | hr) | hr
  ·obtain ⟨k, hk, hki, rfl⟩ := mt r hr
   have := h.at' hk
   have := (h1 k hk hki).1
   omega
  ·exact hs.all r hr
  ·obtain ⟨k, hk, hki, rfl⟩ := md r hr
   have := h.at' hk
   have := (h2 k hk hki).1
   omega
 ·rw [List.append_assoc, List.pairwise_append]
  refine ⟨h.apart.sublist (List.take_sublist _ _), ?_, ?_⟩
  ·rw [List.pairwise_append]
   refine ⟨hs.apart, h.apart.sublist (List.drop_sublist _ _), ?_⟩
   intro a ha c hc
   obtain ⟨k, hk, hki, rfl⟩ := md c hc
   exact (h2 k hk hki).2 a ha
  ·intro a ha c hc
   obtain ⟨k, hk, hki, rfl⟩ := mt a ha
   rw [List.mem_append] at hc
   rcases hc with hc | hc
   ·exact (h1 k hk hki).2 c hc
   ·obtain ⟨k', hk', hkj, rfl⟩ := md c hc
    exact h.get hk hk' (by omega)
theorem NF.one {b sz : Int} {r : Rg} (h : b < r.f ∧ r.f < r.t ∧ r.t ≤ sz) : NF b [r] sz := ⟨by simpa using h, by simp⟩
theorem emp_iff (r : Rg) : emp r = true ↔ r.t ≤ r.f := by unfold emp; simp
theorem NF.join {b sz : Int} {rs : List Rg} (h : NF b rs sz) (hb : -1 ≤ b) {r : Rg} (h1 : b < r.f) (h2 : r.t ≤ sz) (h3 : sz ≤ 262144) : NF b (joinP rs r) sz := by
 unfold joinP
 by_cases he : emp r = true
 ·rw [if_pos he]; exact h
 rw [if_neg he]
 rw [emp_iff] at he
 have w1 : (wid r).f = r.f - 1 := by show wrap64 _ = _; rw [pw64 (by omega)]
 have w2 : (wid r).t = r.t + 1 := by show wrap64 _ = _; rw [pw64 (by omega)]
 have sI := metI_spec h (wid r)
 have sJ := metJ_spec h (wid r)
 have lI := metI_le rs (wid r)
 have lJ := metJ_le rs (wid r)
 rw [w1] at sI
 rw [w2] at sJ
 generalize metI rs (wid r) = i at *
 generalize metJ rs (wid r) = j at *
 by_cases hj : j = 0
 ·rw [if_pos hj]
  subst hj
  refine h.spl (Nat.le_refl _) (NF.one ⟨h1, by omega, h2⟩) (fun k hk hl => ⟨(h.at' hk).2.2, ?_⟩) (fun k hk hl => ⟨(h.at' hk).2.2, ?_⟩)
  ·have := sI.1 k hk hl
   simp only [List.mem_singleton, forall_eq]
   omega
  ·have := sJ.2 k hk (by omega)
   simp only [List.mem_singleton, forall_eq]
   omega
 ·rw [if_neg hj]
  have hi : i < rs.length := by omega
  have hl : i + j - 1 < rs.length := by omega
  rw [getD_lt hi, getD_lt hl]
  have a1 := h.at' hi
  have a2 := h.at' hl
  refine h.spl (by omega) (NF.one ⟨by show b < min _ _; omega, by show min _ _ < max _ _; omega, by show max _ _ ≤ _; omega⟩) (fun k hk hkl => ⟨(h.at' hk).2.2, ?_⟩) (fun k hk hkl => ⟨(h.at' hk).2.2, ?_⟩)
  ·have := sI.1 k hk hkl
   have := h.get hk hi hkl
   simp only [List.mem_singleton, forall_eq]
   omega
  ·have := sJ.2 k hk (by omega)
   have := h.get hl hk (by omega)
   simp only [List.mem_singleton, forall_eq]
   omega
theorem NF.cut {b sz sz' : Int} {rs : List Rg} (h : NF b rs sz) {r : Rg} (h1 : b < r.f) (h2 : ∀ k (hk : k < rs.length), (rs[k].t ≤ r.f ∨ r.t ≤ rs[k].f) → rs[k].t ≤ sz') (h3 : r.f ≤ sz') (h4 : sz ≤ sz' ∨ sz ≤ r.t) (h5 : r.f < r.t ∨ sz ≤ sz') : NF b (cutP rs r) sz' := by
 have hall : (∀ k (hk : k < rs.length), rs[k].t ≤ sz') → NF b rs sz' := fun hq => ⟨fun q hq' => by
  obtain ⟨k, hk, rfl⟩ := List.getElem_of_mem hq'
  have := h.at' hk
  have := hq k hk
  omega, h.apart⟩
 unfold cutP
 by_cases he : emp r = true
 ·rw [if_pos he]
  rw [emp_iff] at he
  exact hall (fun k hk => by have := h.at' hk; omega)
 rw [if_neg he]
 rw [emp_iff] at he
 have sI := metI_spec h r
 have sJ := metJ_spec h r
 have lI := metI_le rs r
 have lJ := metJ_le rs r
 generalize metI rs r = i at *
 generalize metJ rs r = j at *
 by_cases hj : j = 0
 ·rw [if_pos hj]
  refine hall (fun k hk => h2 k hk ?_)
  by_cases hk2 : k < i
  ·exact .inl (sI.1 k hk hk2)
  ·exact .inr (sJ.2 k hk (by omega))
 ·rw [if_neg hj]
  have hi : i < rs.length := by omega
  have hl : i + j - 1 < rs.length := by omega
  rw [getD_lt hi, getD_lt hl]
  have a1 := h.at' hi
  have a2 := h.at' hl
  have a3 := sI.2 i hi (Nat.le_refl _)
  have a4 := sJ.1 _ hl (by omega) (by omega)
  have hys : ∀ y ∈ [(⟨rs[i].f, r.f⟩ : Rg), ⟨r.t, rs[i + j - 1].t⟩].filter nem, (y.f = rs[i].f ∧ y.t = r.f ∨ y.f = r.t ∧ y.t = rs[i + j - 1].t) ∧ y.f < y.t := fun y hy => by
   rw [List.mem_filter] at hy
   obtain ⟨m, n⟩ := hy
   have n' : y.f < y.t := by
    unfold nem at n
    cases e : emp y
    ·have := mt (emp_iff y).2 (by rw [e]; simp); omega
    ·rw [e] at n; exact absurd n (by simp)
   rcases List.mem_cons.1 m with rfl | m
   ·exact ⟨.inl ⟨rfl, rfl⟩, n'⟩
   ·rw [List.mem_singleton] at m
    subst m
    exact ⟨.inr ⟨rfl, rfl⟩, n'⟩
  refine h.spl (by omega) ⟨fun y hy => ?_, ?_⟩ (fun k hk hkl => ⟨h2 k hk (.inl (sI.1 k hk hkl)), fun y hy => ?_⟩) (fun k hk hkl => ⟨h2 k hk (.inr (sJ.2 k hk hkl)), fun y hy => ?_⟩)
  ·obtain ⟨q, q'⟩ := hys y hy
   omega
  ·refine List.Pairwise.filter _ ?_
   simp
   omega
  ·obtain ⟨q, q'⟩ := hys y hy
   have := sI.1 k hk hkl
   have := h.get hk hi hkl
   omega
  ·obtain ⟨q, q'⟩ := hys y hy
   have := sJ.2 k hk hkl
   have := h.get hl hk (by omega)
   omega
theorem NF.cut_in {sz : Int} {rs : List Rg} (h : NF (-1) rs sz) {r : Rg} (h1 : 0 ≤ r.f) (h2 : r.f ≤ sz) : NF (-1) (cutP rs r) sz :=
 h.cut (by omega) (fun k hk _ => (h.at' hk).2.2) h2 (.inl (Int.le_refl _)) (.inr (Int.le_refl _))
theorem NF.cut_end {sz n : Int} {rs : List Rg} (h : NF (-1) rs sz) (hs : sz ≤ 262144) (h1 : 1 ≤ n) (h2 : n ≤ 262144) : NF (-1) (cutP rs ⟨n, 262144⟩) n := by
 refine h.cut (by show (-1 : Int) < n; omega) (fun k hk q => ?_) (Int.le_refl _) (.inr hs) ?_
 ·have := h.at' hk
  rcases q with q | q
  ·exact q
  ·have q : (262144 : Int) ≤ rs[k].f := q
   omega
 ·by_cases e : n = 262144
  ·exact .inr (by omega)
  ·exact .inl (by show n < 262144; omega)
end Go.Proofs.YtddddfankeepkaaGreatDoor
namespace Go.Proofs.YtddddfankeepkaaGreatDoor
open Go.RowKit
/-! ### a view that may be -/
structure VoP (v : PV) (nx : Int) : Prop where
 nm : nmB v.nm = true
 i1 : 1 ≤ v.id
 i2 : v.id < nx
 s1 : 1 ≤ v.sz
 s2 : v.sz ≤ 262144
 o1 : 0 ≤ v.og
 o2 : v.og < v.id
 kd : v.kd = 0 ∨ v.kd = 1
 mp : NF (-1) v.mp v.sz
structure MayP (x : VW) : Prop where
 c1 : 1 ≤ x.cp
 c2 : x.cp ≤ 262144
 f1 : 0 ≤ x.fr
 f2 : x.fr ≤ x.cp
 n1 : 1 ≤ x.nx
 n2 : x.nx ≤ 1073741825
 len : x.vs.length ≤ 64
 vol : ∀ v ∈ x.vs, VoP v x.nx
 byN : x.vs.Pairwise ltV
 byI : x.vs.Pairwise (fun a b => a.id ≠ b.id)
theorem volN_iff (v : PV) (nx : Int) : volN v nx = true ↔ 1 ≤ v.id ∧ v.id < nx ∧ 1 ≤ v.sz ∧ v.sz ≤ 262144 ∧ 0 ≤ v.og ∧ v.og < v.id := by
 unfold volN
 constructor
 ·intro h
  repeat (split at h; exact absurd h (by simp))
  omega
 ·intro h
  rw [if_neg (by omega), if_neg (by omega), if_neg (by omega), if_neg (by omega), if_neg (by omega), if_neg (by omega)]
theorem volK_iff (v : PV) : volK v = true ↔ (v.kd = 0 ∨ v.kd = 1) ∧ NF (-1) v.mp v.sz := by
 unfold volK
 rw [← rgO_nf]
 by_cases h0 : v.kd = 0
 ·rw [if_pos h0]; simp [h0]
 ·rw [if_neg h0]
  by_cases h1 : v.kd = 1
  ·rw [if_pos h1]; simp [h1]
  ·rw [if_neg h1]; simp [h0, h1]
theorem mayH_iff (x : VW) : mayH x = true ↔ 1 ≤ x.cp ∧ x.cp ≤ 262144 ∧ 0 ≤ x.fr ∧ x.fr ≤ x.cp ∧ 1 ≤ x.nx ∧ x.nx ≤ 1073741825 ∧ x.vs.length ≤ 64 := by
 constructor
 ·intro h
  have := mayH_yes h
  omega
 ·intro h
  unfold mayH
  rw [if_neg (by omega), if_neg (by omega), if_neg (by omega), if_neg (by omega), if_neg (by omega), if_neg (by omega), if_neg (by omega)]
theorem pw_adj {vs : List PV} (h : ∀ m (hm : m + 1 < vs.length), ltS vs[m].nm vs[m + 1].nm) : vs.Pairwise ltV := by
 rw [List.pairwise_iff_getElem]
 intro i j hi hj hij
 induction j with
 | zero => omega
 | succ j ih =>
  by_cases e : i = j
  ·subst e; exact h i hj
  ·exact ltS_trans (ih (by omega) (by omega)) (h j hj)
theorem mayB_iff (x : VW) : mayB x = true ↔ MayP x := by
 unfold mayB
 rw [Bool.and_eq_true, List.all_eq_true, mayH_iff]
 constructor
 ·rintro ⟨hh, hv⟩
  have hk : ∀ k (hk : k < x.vs.length), volM x k hk = true := fun k hk => hv ⟨k, hk⟩ (List.mem_finRange _)
  have hp : ∀ k (hk : k < x.vs.length), nmB x.vs[k].nm = true ∧ (k = 0 ∨ nmLe x.vs[k].nm (x.vs[k - 1]'(by omega)).nm = false) ∧ volN x.vs[k] x.nx = true ∧ volK x.vs[k] = true ∧ ∀ v ∈ x.vs.take k, v.id ≠ x.vs[k].id := fun k hk' => by
   have := hk k hk'
   unfold volM at this
   simp only [Bool.and_eq_true, Bool.or_eq_true, decide_eq_true_eq, Bool.not_eq_true', List.all_eq_true, beq_eq_false_iff_ne, ne_eq] at this
   exact ⟨this.1.1.1.1, this.1.1.1.2, this.1.1.2, this.1.2, this.2⟩
  refine ⟨hh.1, hh.2.1, hh.2.2.1, hh.2.2.2.1, hh.2.2.2.2.1, hh.2.2.2.2.2.1, hh.2.2.2.2.2.2, ?_, ?_, ?_⟩
  ·intro v hv
   obtain ⟨k, hk', rfl⟩ := List.getElem_of_mem hv
   obtain ⟨a, _, b, c, _⟩ := hp k hk'
   have b := (volN_iff _ _).1 b
   have c := (volK_iff _).1 c
   exact ⟨a, b.1, b.2.1, b.2.2.1, b.2.2.2.1, b.2.2.2.2.1, b.2.2.2.2.2, c.1, c.2⟩
  ·refine pw_adj fun m hm => ?_
   obtain ⟨_, a, _⟩ := hp (m + 1) hm
   exact nmLe_false (a.resolve_left (by omega))
  ·rw [List.pairwise_iff_getElem]
   intro i j hi hj hij
   obtain ⟨_, _, _, _, a⟩ := hp j hj
   exact a _ (List.mem_iff_getElem.2 ⟨i, by rw [List.length_take]; omega, List.getElem_take⟩)
 ·intro h
  refine ⟨⟨h.c1, h.c2, h.f1, h.f2, h.n1, h.n2, h.len⟩, fun i _ => ?_⟩
  obtain ⟨k, hk⟩ := i
  have v := h.vol _ (List.getElem_mem hk)
  show volM x k hk = true
  unfold volM
  simp only [Bool.and_eq_true, Bool.or_eq_true, decide_eq_true_eq, Bool.not_eq_true', List.all_eq_true, beq_eq_false_iff_ne, ne_eq]
  refine ⟨⟨⟨⟨v.nm, ?_⟩, (volN_iff _ _).2 ⟨v.i1, v.i2, v.s1, v.s2, v.o1, v.o2⟩⟩, (volK_iff _).2 ⟨v.kd, v.mp⟩⟩, ?_⟩
  ·by_cases e : k = 0
   ·exact .inl e
   ·exact .inr (nmLe_of_lt (pw_get h.byN (by omega) hk (by omega)))
  ·intro u hu
   obtain ⟨i, hi, rfl⟩ := List.getElem_of_mem hu
   rw [List.length_take] at hi
   rw [List.getElem_take]
   exact (List.pairwise_iff_getElem.1 h.byI) i k (by omega) hk (by omega)
/-! ### what is not refused -/
structure TkP (x : VW) (o : OW) (n : Nat) : Prop where
 k1 : 1 ≤ o.k
 k2 : o.k ≤ 11
 frm : isF o.k.toNat o.nm o.ot o.fr o.tt n = true
 nm : uN o.k.toNat = true → nmB o.nm = true
 ot : uO o.k.toNat = true → nmB o.ot = true
 da : uD o.k.toNat = true → n = 512
 look : ∀ f ∈ lks o.k.toNat, lkE f x o (plcF x.vs o.nm 0) (plcF x.vs o.ot 0) = 0
theorem first_zero : ∀ l : List Int, firstE l = 0 ↔ ∀ e ∈ l, e = 0
 | [] => by simp [firstE]
 | e :: l => by
  unfold firstE
  by_cases h : e = 0
  ·rw [if_pos h, first_zero l]; simp [h]
  ·rw [if_neg h]; simp [h]
theorem fmE_zero {o : OW} {n : Nat} (h : fmE o n = 0) : 1 ≤ o.k ∧ o.k ≤ 11 ∧ isF o.k.toNat o.nm o.ot o.fr o.tt n = true ∧ (uN o.k.toNat = true → nmB o.nm = true) ∧ (uO o.k.toNat = true → nmB o.ot = true) ∧ (uD o.k.toNat = true → n = 512) := by
 have h2 : ckO o.k o.nm o.ot o.fr o.tt n = 0 ∨ ckO o.k o.nm o.ot o.fr o.tt n = 106 ∨ ckO o.k o.nm o.ot o.fr o.tt n = 107 := by
  unfold fmE at h
  split at h
  ·rename_i q; exact .inr q
  ·exact .inl h
 clear h
 unfold ckO at h2
 by_cases a : o.k < 1 ∨ 11 < o.k
 ·rw [if_pos a] at h2; omega
 rw [if_neg a] at h2
 by_cases b : isF o.k.toNat o.nm o.ot o.fr o.tt n = false
 ·rw [if_pos b] at h2; omega
 rw [if_neg b] at h2
 by_cases c : (uN o.k.toNat && !nmB o.nm) = true
 ·rw [if_pos c] at h2; omega
 rw [if_neg c] at h2
 by_cases d : (uO o.k.toNat && !nmB o.ot) = true
 ·rw [if_pos d] at h2; omega
 rw [if_neg d] at h2
 by_cases e : (uD o.k.toNat && (n : Int) != 512) = true
 ·rw [if_pos e] at h2; omega
 refine ⟨by omega, by omega, by simpa using b, fun q => ?_, fun q => ?_, fun q => ?_⟩
 ·simpa [q] using c
 ·simpa [q] using d
 ·rw [q] at e
  simp at e
  omega
theorem tkE_zero {x : VW} {o : OW} {n : Nat} (h : tkE x o n = 0) : TkP x o n := by
 unfold tkE at h
 by_cases hf : fmE o n = 0
 ·rw [if_pos hf, first_zero] at h
  obtain ⟨a, b, c, d, e, g⟩ := fmE_zero hf
  exact ⟨a, b, c, d, e, g, fun f hf => h _ (List.mem_map.2 ⟨f, hf, rfl⟩)⟩
 ·rw [if_neg hf] at h
  exact absurd h hf
/-! ### what is not refused leaves a view that may be -/
theorem MayP.set {x : VW} (h : MayP x) {k : Nat} (hk : k < x.vs.length) {v : PV} (hn : v.nm = x.vs[k].nm) (hi : v.id = x.vs[k].id) (hv : VoP v x.nx) : MayP ⟨x.cp, x.fr, x.nx, x.vs.set k v⟩ := by
 refine ⟨h.c1, h.c2, h.f1, h.f2, h.n1, h.n2, by show (x.vs.set k v).length ≤ 64; rw [List.length_set]; exact h.len, ?_, ?_, ?_⟩
 ·intro u hu
  rcases List.mem_or_eq_of_mem_set hu with q | q
  ·exact h.vol u q
  ·rw [q]; exact hv
 ·show (x.vs.set k v).Pairwise ltV
  rw [List.pairwise_iff_getElem]
  intro i j hi' hj hij
  rw [List.length_set] at hi' hj
  have := pw_get h.byN hi' hj hij
  unfold ltV
  rw [List.getElem_set, List.getElem_set]
  by_cases e1 : k = i
  ·subst e1
   rw [if_pos rfl, if_neg (by omega), hn]; exact this
  ·rw [if_neg e1]
   by_cases e2 : k = j
   ·subst e2
    rw [if_pos rfl, hn]; exact this
   ·rw [if_neg e2]; exact this
 ·show (x.vs.set k v).Pairwise (fun a b => a.id ≠ b.id)
  rw [List.pairwise_iff_getElem]
  intro i j hi' hj hij
  rw [List.length_set] at hi' hj
  have := (List.pairwise_iff_getElem.1 h.byI) i j hi' hj hij
  rw [List.getElem_set, List.getElem_set]
  by_cases e1 : k = i
  ·subst e1
   rw [if_pos rfl, if_neg (by omega), hi]; exact this
  ·rw [if_neg e1]
   by_cases e2 : k = j
   ·subst e2
    rw [if_pos rfl, hi]; exact this
   ·rw [if_neg e2]; exact this
theorem MayP.erase {x : VW} (h : MayP x) (k : Nat) : MayP ⟨x.cp, x.fr, x.nx, x.vs.eraseIdx k⟩ :=
 ⟨h.c1, h.c2, h.f1, h.f2, h.n1, h.n2, Nat.le_trans (List.length_eraseIdx_le x.vs k) h.len, fun v hv => h.vol v (List.mem_of_mem_eraseIdx hv), h.byN.sublist (List.eraseIdx_sublist _ _), h.byI.sublist (List.eraseIdx_sublist _ _)⟩
theorem lay_byI {vs : List PV} {v : PV} (h : vs.Pairwise (fun a b => a.id ≠ b.id)) (hv : ∀ u ∈ vs, u.id ≠ v.id) : (layP vs v).Pairwise (fun a b => a.id ≠ b.id) := by
 unfold layP
 rw [List.append_assoc, List.pairwise_append]
 refine ⟨h.sublist (List.take_sublist _ _), ?_, ?_⟩
 ·rw [List.singleton_append, List.pairwise_cons]
  exact ⟨fun u hu => (hv u (List.mem_of_mem_drop hu)).symm, h.sublist (List.drop_sublist _ _)⟩
 ·intro a ha b hb
  rw [List.mem_append, List.mem_singleton] at hb
  rcases hb with rfl | hb
  ·exact hv a (List.mem_of_mem_take ha)
  ·have := h
   rw [← List.take_append_drop (layI vs v.nm) vs, List.pairwise_append] at this
   exact this.2.2 a ha b hb
theorem MayP.lay {x : VW} (h : MayP x) {v : PV} {nx : Int} (hl : x.vs.length ≤ 63) (hx : x.nx ≤ nx) (h2 : nx ≤ 1073741825) (hn : ∀ u ∈ x.vs, u.nm ≠ v.nm) (hi : ∀ u ∈ x.vs, u.id ≠ v.id) (hv : VoP v nx) : MayP ⟨x.cp, x.fr, nx, layP x.vs v⟩ := by
 refine ⟨h.c1, h.c2, h.f1, h.f2, by show 1 ≤ nx; have := h.n1; omega, h2, by show (layP x.vs v).length ≤ 64; rw [lay_len]; omega, ?_, lay_sorted h.byN hn, lay_byI h.byI hi⟩
 intro u hu
 rcases lay_mem.1 hu with rfl | hu
 ·exact hv
 ·have q := h.vol u hu
  exact ⟨q.nm, q.i1, by show u.id < nx; have := q.i2; omega, q.s1, q.s2, q.o1, q.o2, q.kd, q.mp⟩
theorem MayP.add {x : VW} (h : MayP x) {o : OW} {v : PV} (h54 : lkE 54 x o (plcF x.vs o.nm 0) (plcF x.vs o.ot 0) = 0) (h52 : lkE 52 x o (plcF x.vs o.nm 0) (plcF x.vs o.ot 0) = 0) (hn : nmB o.nm = true) (s1 : 1 ≤ v.sz) (s2 : v.sz ≤ 262144) (o1 : 0 ≤ v.og) (o2 : v.og < x.nx) (kd : v.kd = 0 ∨ v.kd = 1) (mp : NF (-1) v.mp v.sz) : MayP (addP x o v) := by
 have e52 : plcF x.vs o.nm 0 < 0 := by
  have := (unl_zero (by decide)).1 h52
  simpa using this
 have e54 : ¬ 64 ≤ x.vs.length ∧ x.nx ≤ 1073741824 := by
  unfold lkE at h54
  by_cases q : 64 ≤ x.vs.length
  ·simp [q] at h54
  ·refine ⟨q, ?_⟩
   simp only [q, if_false] at h54
   have := (unl_zero (by decide)).1 h54
   simpa using this
 unfold addP
 rw [pw64 (by have := h.n1; omega)]
 exact h.lay (by omega) (by omega) (by omega) (plc_free e52) (fun u hu => by have := (h.vol u hu).i2; show u.id ≠ x.nx; omega) ⟨hn, h.n1, by show x.nx < _; omega, s1, s2, o1, o2, kd, mp⟩
theorem MayP.tk {x : VW} {o : OW} {n : Nat} (h : MayP x) (ht : tkE x o n = 0) : MayP (tkX x o) := by
 have T := tkE_zero ht
 unfold tkX
 have hL := T.look
 have hN := T.nm
 have hO := T.ot
 obtain ⟨kk, hkk⟩ : ∃ k : Nat, k = o.k.toNat := ⟨_, rfl⟩
 have k1 : 1 ≤ kk := by have := T.k1; omega
 have k2 : kk ≤ 11 := by have := T.k2; omega
 rw [← hkk] at hL hN hO ⊢
 have lk : ∀ {f : Nat} {b : Bool} {e : Int}, e ≠ 0 → f ∈ lks kk → (∀ x : VW, lkE f x o (plcF x.vs o.nm 0) (plcF x.vs o.ot 0) = lkE f x o (plcF x.vs o.nm 0) (plcF x.vs o.ot 0)) → lkE f x o (plcF x.vs o.nm 0) (plcF x.vs o.ot 0) = unl b e → b = true := fun he hf _ hu => (unl_zero he).1 (by rw [← hu]; exact hL _ hf)
 have there : 55 ∈ lks kk → ∃ k, ∃ hk : k < x.vs.length, plcF x.vs o.nm 0 = (k : Int) ∧ x.vs[k].nm = o.nm := fun hf => plc_there (by simpa using lk (f := 55) (b := decide (0 ≤ plcF x.vs o.nm 0)) (e := 104) (by decide) hf (fun _ => rfl) rfl)
 have other : 51 ∈ lks kk → ∃ k, ∃ hk : k < x.vs.length, plcF x.vs o.ot 0 = (k : Int) ∧ x.vs[k].nm = o.ot := fun hf => plc_there (by simpa using lk (f := 51) (b := decide (0 ≤ plcF x.vs o.ot 0)) (e := 104) (by decide) hf (fun _ => rfl) rfl)
 have tn : ∀ i : Nat, ((i : Int)).toNat = i := fun i => by omega
 rcases nat_kinds k1 k2 with rfl | rfl | rfl | rfl | rfl | rfl | rfl | rfl | rfl | rfl | rfl
 ·have e59 := lk (f := 59) (b := decide (1 ≤ o.tt ∧ o.tt ≤ 262144)) (e := 106) (by decide) (by decide) (fun _ => rfl) rfl
  simp only [decide_eq_true_eq] at e59
  exact h.add (hL 54 (by decide)) (hL 52 (by decide)) (hN (by decide)) e59.1 e59.2 (Int.le_refl _) (by show 0 < x.nx; have := h.n1; omega) (.inl rfl) (NF.nil _ _)
 ·obtain ⟨k, hk, e, _⟩ := other (by decide)
  have v := h.vol _ (List.getElem_mem hk)
  simp only [doX, e, volAt_eq hk]
  exact h.add (hL 54 (by decide)) (hL 52 (by decide)) (hN (by decide)) v.s1 v.s2 (by show 0 ≤ x.vs[k].id; have := v.i1; omega) v.i2 (.inr rfl) v.mp
 ·obtain ⟨k, hk, e, _⟩ := other (by decide)
  have v := h.vol _ (List.getElem_mem hk)
  simp only [doX, e, volAt_eq hk]
  exact h.add (hL 54 (by decide)) (hL 52 (by decide)) (hN (by decide)) v.s1 v.s2 (by show 0 ≤ x.vs[k].id; have := v.i1; omega) v.i2 (.inl rfl) v.mp
 ·obtain ⟨k, hk, e, _⟩ := there (by decide)
  have v := h.vol _ (List.getElem_mem hk)
  have e59 := lk (f := 59) (b := decide (1 ≤ o.tt ∧ o.tt ≤ 262144)) (e := 106) (by decide) (by decide) (fun _ => rfl) rfl
  simp only [decide_eq_true_eq] at e59
  simp only [doX, e, volAt_eq hk, tn]
  exact h.set hk rfl rfl ⟨v.nm, v.i1, v.i2, e59.1, e59.2, v.o1, v.o2, v.kd, v.mp.cut_end v.s2 e59.1 e59.2⟩
 ·obtain ⟨k, hk, e, _⟩ := there (by decide)
  have v := h.vol _ (List.getElem_mem hk)
  have e64 := lk (f := 64) (b := decide (plcF x.vs o.ot 0 < 0)) (e := 105) (by decide) (by decide) (fun _ => rfl) rfl
  have e64 := plc_free (by simpa using e64)
  simp only [doX, e, volAt_eq hk, tn]
  have hl := List.length_eraseIdx_of_lt hk
  refine (h.erase k).lay (v := setNm x.vs[k] o.ot) (by show (x.vs.eraseIdx k).length ≤ 63; have := h.len; omega) (Int.le_refl _) h.n2 (fun u hu => e64 u (List.mem_of_mem_eraseIdx hu)) (fun u hu => ?_) ⟨hO (by decide), v.i1, v.i2, v.s1, v.s2, v.o1, v.o2, v.kd, v.mp⟩
  obtain ⟨i, hi, rfl⟩ := List.getElem_of_mem hu
  show (x.vs.eraseIdx k)[i].id ≠ x.vs[k].id
  rw [hl] at hi
  by_cases q : i < k
  ·rw [List.getElem_eraseIdx_of_lt (by omega) q]
   exact (List.pairwise_iff_getElem.1 h.byI) i k (by omega) hk q
  ·rw [List.getElem_eraseIdx_of_ge (by omega) (by omega)]
   exact ((List.pairwise_iff_getElem.1 h.byI) k (i + 1) hk (by omega) (by omega)).symm
 ·exact h.erase _
 ·obtain ⟨k, hk, e, _⟩ := there (by decide)
  obtain ⟨j, hj, e2, _⟩ := other (by decide)
  have v := h.vol _ (List.getElem_mem hk)
  have u := h.vol _ (List.getElem_mem hj)
  simp only [doX, e, e2, volAt_eq hk, volAt_eq hj, tn]
  exact h.set hk rfl rfl ⟨v.nm, v.i1, v.i2, u.s1, u.s2, v.o1, v.o2, v.kd, u.mp⟩
 ·obtain ⟨k, hk, e, _⟩ := there (by decide)
  have v := h.vol _ (List.getElem_mem hk)
  have e69 := lk (f := 69) (b := decide (0 ≤ o.fr ∧ o.fr < (volAt x (plcF x.vs o.nm 0)).sz)) (e := 107) (by decide) (by decide) (fun _ => rfl) rfl
  simp only [decide_eq_true_eq, e, volAt_eq hk] at e69
  simp only [doX, e, volAt_eq hk, tn]
  have := v.s2
  exact h.set hk rfl rfl ⟨v.nm, v.i1, v.i2, v.s1, v.s2, v.o1, v.o2, v.kd, v.mp.join (Int.le_refl _) (by show -1 < o.fr; omega) (by show wrap64 (o.fr + 1) ≤ x.vs[k].sz; rw [pw64 (by omega)]; omega) v.s2⟩
 ·obtain ⟨k, hk, e, _⟩ := there (by decide)
  have v := h.vol _ (List.getElem_mem hk)
  have e56 := lk (f := 56) (b := decide (0 ≤ o.fr ∧ o.tt ≤ (volAt x (plcF x.vs o.nm 0)).sz ∧ o.fr ≤ o.tt)) (e := 107) (by decide) (by decide) (fun _ => rfl) rfl
  simp only [decide_eq_true_eq, e, volAt_eq hk] at e56
  simp only [doX, e, volAt_eq hk, tn]
  exact h.set hk rfl rfl ⟨v.nm, v.i1, v.i2, v.s1, v.s2, v.o1, v.o2, v.kd, v.mp.cut_in e56.1 (by show o.fr ≤ x.vs[k].sz; omega)⟩
 ·obtain ⟨k, hk, e, _⟩ := there (by decide)
  have v := h.vol _ (List.getElem_mem hk)
  have e56 := lk (f := 56) (b := decide (0 ≤ o.fr ∧ o.tt ≤ (volAt x (plcF x.vs o.nm 0)).sz ∧ o.fr ≤ o.tt)) (e := 107) (by decide) (by decide) (fun _ => rfl) rfl
  simp only [decide_eq_true_eq, e, volAt_eq hk] at e56
  simp only [doX, e, volAt_eq hk, tn]
  exact h.set hk rfl rfl ⟨v.nm, v.i1, v.i2, v.s1, v.s2, v.o1, v.o2, v.kd, v.mp.join (Int.le_refl _) (by show -1 < o.fr; omega) (by show o.tt ≤ x.vs[k].sz; omega) v.s2⟩
 ·have e73 := lk (f := 73) (b := decide (x.cp < o.tt ∧ o.tt ≤ 262144)) (e := 106) (by decide) (by decide) (fun _ => rfl) rfl
  simp only [decide_eq_true_eq] at e73
  have := h.f2
  have := h.c1
  exact ⟨by show 1 ≤ o.tt; omega, e73.2, h.f1, by show x.fr ≤ o.tt; omega, h.n1, h.n2, h.len, h.vol, h.byN, h.byI⟩
end Go.Proofs.YtddddfankeepkaaGreatDoor
