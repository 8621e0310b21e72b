import Derived.Test.YtddddfankeepkaaGreatDoorF14
import Derived.Test.YtddddfankeepkaaGreatDoorF19
namespace Go.Proofs.YtddddfankeepkaaGreatDoor
open Go.RowKit
theorem plcF_spec : ∀ (vs : List PV) (nm : ByteArray) (k : Nat), (plcF vs nm k = -1 ∧ ∀ v ∈ vs, v.nm ≠ nm) ∨ ∃ i, ∃ h : i < vs.length, plcF vs nm k = ((k + i : Nat) : Int) ∧ vs[i].nm = nm
 | [], nm, k => .inl ⟨rfl, by simp⟩
 | v :: vs, nm, k => by
  unfold plcF
  by_cases h : v.nm.toList = nm.toList
  ·rw [if_pos h]
   exact .inr ⟨0, by simp, rfl, str_toList.1 h⟩
  ·rw [if_neg h]
   rcases plcF_spec vs nm (k + 1) with ⟨e, ha⟩ | ⟨i, hi, e, ha⟩
   ·exact .inl ⟨e, by simp; exact ⟨fun q => h (str_toList.2 q), ha⟩⟩
   ·exact .inr ⟨i + 1, by simpa using hi, by rw [e]; congr 1; omega, by simpa using ha⟩
def PlO (x : VW) (p : Int) : Prop := p = -1 ∨ ∃ k : Nat, k < x.vs.length ∧ p = (k : Int)
theorem plO (x : VW) (nm : ByteArray) : PlO x (plcF x.vs nm 0) := by
 rcases plcF_spec x.vs nm 0 with ⟨e, _⟩ | ⟨i, hi, e, _⟩
 ·exact .inl e
 ·exact .inr ⟨i, hi, by rw [e, Nat.zero_add]⟩
def volAt (x : VW) (p : Int) : PV := x.vs.getD p.toNat PV0
theorem volAt_eq {x : VW} {k : Nat} (hk : k < x.vs.length) : volAt x (k : Int) = x.vs[k] := by
 unfold volAt
 rw [show ((k : Int)).toNat = k by omega, List.getD_eq_getElem?_getD, List.getElem?_eq_getElem hk]
 rfl
def lkE (f : Nat) (x : VW) (o : OW) (pn po : Int) : Int :=
 match f with
 | 51 => unl (decide (0 ≤ po)) 104
 | 52 => unl (decide (pn < 0)) 105
 | 53 => unl (!(volAt x po).pt) 108
 | 54 => if 64 ≤ x.vs.length then 83 else unl (decide (x.nx ≤ 1073741824)) 85
 | 55 => unl (decide (0 ≤ pn)) 104
 | 56 => unl (decide (0 ≤ o.fr ∧ o.tt ≤ (volAt x pn).sz ∧ o.fr ≤ o.tt)) 107
 | 57 => unl (!(volAt x pn).pt) 108
 | 58 => unl (decide (IntKind.i64.wrap (o.tt - o.fr) ≤ 32)) 107
 | 59 => unl (decide (1 ≤ o.tt ∧ o.tt ≤ 262144)) 106
 | 64 => unl (decide (po < 0)) 105
 | 66 => unl (!decide (0 ≤ chlF x.vs (volAt x pn).id 0)) 109
 | 69 => unl (decide (0 ≤ o.fr ∧ o.fr < (volAt x pn).sz)) 107
 | _ => unl (decide (x.cp < o.tt ∧ o.tt ≤ 262144)) 106
def isLook (f : Nat) : Prop := f ∈ [51, 52, 53, 54, 55, 56, 57, 58, 59, 64, 66, 69, 73]
theorem look_any (f : Nat) (hf : isLook f) (B D : Nat) (x : VW) (u : Value) (us : List Value) (o : OW) (dv : Value) (pn po : Int) (w : World) (H : DrV B w D x u us o dv pn po) (hl : x.vs.length ≤ 16777216) (hpn : f ∈ [56, 57, 66, 69] → ∃ k : Nat, k < x.vs.length ∧ pn = (k : Int)) (hpo : f = 53 → ∃ k : Nat, k < x.vs.length ∧ po = (k : Int)) :
  Calls Tryz.prog f #[.pointer (some ⟨D, 0, none⟩)] w fun e w' => LkQ w (lkE f x o pn po) e w' := by
 unfold isLook at hf
 simp only [List.mem_cons, List.not_mem_nil, or_false] at hf
 have hv : ∀ k : Nat, k < x.vs.length → ∃ g c a' c', u = .slice (some ⟨g, 0, none⟩) x.vs.length c ∧ ∀ v, v = volAt x (k : Int) → VolC w g (0 + k * 7) v a' c' := fun k hk => by
  obtain ⟨g, c, a', c', e, _, _, hV, _, _⟩ := H.ow.volc hk
  exact ⟨g, c, a', c', e, fun v hv => by rw [hv, volAt_eq hk, Nat.zero_add]; exact hV⟩
 rcases hf with rfl | rfl | rfl | rfl | rfl | rfl | rfl | rfl | rfl | rfl | rfl | rfl | rfl
 ·exact otherIsThere_any D x u o dv pn po w H.dr
 ·exact nameIsFree_any D x u o dv pn po w H.dr
 ·obtain ⟨k, hk, rfl⟩ := hpo rfl
  obtain ⟨g, c, a', c', rfl, hV⟩ := hv k hk
  exact otherIsWhole_any D x g 0 x.vs.length c k _ a' c' o dv pn w H.dr hk (hV _ rfl)
 ·obtain ⟨a, c, rfl, _, _⟩ := H.ow.rd
  exact room_any D x a x.vs.length c o dv pn po w H.dr
 ·exact nameIsThere_any D x u o dv pn po w H.dr
 ·obtain ⟨k, hk, rfl⟩ := hpn (by simp)
  obtain ⟨g, c, a', c', rfl, hV⟩ := hv k hk
  exact rangeIsWithin_any D x g 0 x.vs.length c k _ a' c' o dv po w H.dr hk (hV _ rfl)
 ·obtain ⟨k, hk, rfl⟩ := hpn (by simp)
  obtain ⟨g, c, a', c', rfl, hV⟩ := hv k hk
  exact nameIsWhole_any D x g 0 x.vs.length c k _ a' c' o dv po w H.dr hk (hV _ rfl)
 ·exact rangeIsShort_any D x u o dv pn po w H.dr
 ·exact sizeMayBe_any D x u o dv pn po w H.dr
 ·exact otherIsFree_any D x u o dv pn po w H.dr
 ·obtain ⟨k, hk, rfl⟩ := hpn (by simp)
  obtain ⟨g, c, a', c', rfl, hV⟩ := hv k hk
  obtain ⟨a2, c2, e2, hR, _⟩ := H.ow.rd
  simp only [Value.slice.injEq, true_and] at e2
  obtain ⟨rfl, rfl⟩ := e2
  exact noChildren_any D x g 0 c k _ a' c' o dv po w H.dr hk (hV _ rfl) hl hR
 ·obtain ⟨k, hk, rfl⟩ := hpn (by simp)
  obtain ⟨g, c, a', c', rfl, hV⟩ := hv k hk
  exact fromIsWithin_any D x g 0 x.vs.length c k _ a' c' o dv po w H.dr hk (hV _ rfl)
 ·exact capacityMayBe_any D x u o dv pn po w H.dr
def doX (k : Nat) (x : VW) (o : OW) (pn po : Int) : VW :=
 match k with
 | 1 => addP x o ⟨ByteArray.empty, 0, o.tt, 0, 0, false, []⟩
 | 2 => addP x o ⟨ByteArray.empty, 0, (volAt x po).sz, (volAt x po).id, 1, false, (volAt x po).mp⟩
 | 3 => addP x o ⟨ByteArray.empty, 0, (volAt x po).sz, (volAt x po).id, 0, false, (volAt x po).mp⟩
 | 4 => ⟨x.cp, x.fr, x.nx, x.vs.set pn.toNat (rszP (volAt x pn) o.tt)⟩
 | 5 => ⟨x.cp, x.fr, x.nx, layP (x.vs.eraseIdx pn.toNat) (setNm (volAt x pn) o.ot)⟩
 | 6 => ⟨x.cp, x.fr, x.nx, x.vs.eraseIdx pn.toNat⟩
 | 7 => ⟨x.cp, x.fr, x.nx, x.vs.set pn.toNat (setMp (setSz (volAt x pn) (volAt x po).sz) (volAt x po).mp)⟩
 | 8 => ⟨x.cp, x.fr, x.nx, x.vs.set pn.toNat (setMp (volAt x pn) (joinP (volAt x pn).mp ⟨o.fr, wrap64 (o.fr + 1)⟩))⟩
 | 9 => ⟨x.cp, x.fr, x.nx, x.vs.set pn.toNat (setMp (volAt x pn) (cutP (volAt x pn).mp ⟨o.fr, o.tt⟩))⟩
 | 10 => ⟨x.cp, x.fr, x.nx, x.vs.set pn.toNat (setMp (volAt x pn) (joinP (volAt x pn).mp ⟨o.fr, o.tt⟩))⟩
 | _ => ⟨o.tt, x.fr, x.nx, x.vs⟩
theorem do_any (k : Nat) (hk1 : 1 ≤ k) (hk2 : k ≤ 11) (B D : Nat) (x : VW) (u : Value) (us : List Value) (o : OW) (dv : Value) (pn po : Int) (w : World) (H : DrV B w D x u us o dv pn po) (hl : shV x.vs) (hl2 : x.vs.length ≤ 16777215) (hB : B ≤ w.heap.size) (hpn : 4 ≤ k → k ≤ 10 → ∃ i : Nat, i < x.vs.length ∧ pn = (i : Int)) (hpo : k = 2 ∨ k = 3 ∨ k = 7 → ∃ i : Nat, i < x.vs.length ∧ po = (i : Int)) :
  Calls Tryz.prog (dof k) #[.pointer (some ⟨D, 0, none⟩)] w fun e w' => DoQ B w D (doX k x o pn po) o dv pn po e w' := by
 have tn : ∀ i : Nat, ((i : Int)).toNat = i := fun i => by omega
 rcases (show k = 1 ∨ k = 2 ∨ k = 3 ∨ k = 4 ∨ k = 5 ∨ k = 6 ∨ k = 7 ∨ k = 8 ∨ k = 9 ∨ k = 10 ∨ k = 11 by omega) with rfl | rfl | rfl | rfl | rfl | rfl | rfl | rfl | rfl | rfl | rfl
 ·exact create_any B D x u us o dv pn po w H hl2 hB
 ·obtain ⟨i, hi, rfl⟩ := hpo (by omega)
  simp only [doX, volAt_eq hi]
  exact snap_any B D x u us o dv pn i w H hi hl hl2 hB
 ·obtain ⟨i, hi, rfl⟩ := hpo (by omega)
  simp only [doX, volAt_eq hi]
  exact clone_any B D x u us o dv pn i w H hi hl hl2 hB
 ·obtain ⟨i, hi, rfl⟩ := hpn (by omega) (by omega)
  simp only [doX, volAt_eq hi, tn]
  exact resize_any B D x u us o dv i po w H hi hl hB
 ·obtain ⟨i, hi, rfl⟩ := hpn (by omega) (by omega)
  simp only [doX, volAt_eq hi, tn]
  exact rename_any B D x u us o dv i po w H hi hl.1 hB
 ·obtain ⟨i, hi, rfl⟩ := hpn (by omega) (by omega)
  simp only [doX, tn]
  refine (remove_any B D x u us o dv i po w H hi hl.1).mono fun e w' hq => ?_
  obtain ⟨e1, ⟨u', h1, _⟩, h2⟩ := hq
  exact ⟨e1, ⟨u', _, h1⟩, BelK.but h2 hB (fun y h => by
   rcases h with h | h
   ·rw [h]
    exact ⟨H.hD, H.kd⟩
   ·exact KdOk.own H.ow.row h (by decide) (by decide))⟩
 ·obtain ⟨i, hi, rfl⟩ := hpn (by omega) (by omega)
  obtain ⟨j, hj, rfl⟩ := hpo (by omega)
  simp only [doX, volAt_eq hi, volAt_eq hj, tn]
  exact restore_any B D x u us o dv i j w H hi hj hl hB
 ·obtain ⟨i, hi, rfl⟩ := hpn (by omega) (by omega)
  simp only [doX, volAt_eq hi, tn]
  exact write_any B D x u us o dv i po w H hi hl hB
 ·obtain ⟨i, hi, rfl⟩ := hpn (by omega) (by omega)
  simp only [doX, volAt_eq hi, tn]
  exact discard_any B D x u us o dv i po w H hi hl hB
 ·obtain ⟨i, hi, rfl⟩ := hpn (by omega) (by omega)
  simp only [doX, volAt_eq hi, tn]
  exact fill_any B D x u us o dv i po w H hi hl hB
 ·exact extend_any B D x u us o dv pn po w H hB
def lksE (k : Nat) (x : VW) (o : OW) (pn po : Int) : List Int := (lks k).map fun f => lkE f x o pn po
def firstE : List Int → Int
 | [] => 0
 | e :: l => if e = 0 then firstE l else e
theorem unl_zero {b : Bool} {e : Int} (he : e ≠ 0) : unl b e = 0 ↔ b = true := by
 cases b <;> simp [unl, he]
theorem looks_need (k : Nat) (hk1 : 1 ≤ k) (hk2 : k ≤ 11) (x : VW) (o : OW) (pn po : Int) (hpn : PlO x pn) (hpo : PlO x po) (i : Nat) (hi : i < (lks k).length) (h0 : ∀ j (hj : j < i), lkE ((lks k)[j]'(by omega)) x o pn po = 0) :
  isLook (lks k)[i] ∧ ((lks k)[i] ∈ [56, 57, 66, 69] → ∃ q : Nat, q < x.vs.length ∧ pn = (q : Int)) ∧ ((lks k)[i] = 53 → ∃ q : Nat, q < x.vs.length ∧ po = (q : Int)) := by
 have hN : lkE 55 x o pn po = 0 → ∃ q : Nat, q < x.vs.length ∧ pn = (q : Int) := fun h => by
  have := (unl_zero (by decide)).1 h
  rcases hpn with e | e
  ·rw [e] at this; simp at this
  ·exact e
 have hO : lkE 51 x o pn po = 0 → ∃ q : Nat, q < x.vs.length ∧ po = (q : Int) := fun h => by
  have := (unl_zero (by decide)).1 h
  rcases hpo with e | e
  ·rw [e] at this; simp at this
  ·exact e
 rcases (show k = 1 ∨ k = 2 ∨ k = 3 ∨ k = 4 ∨ k = 5 ∨ k = 6 ∨ k = 7 ∨ k = 8 ∨ k = 9 ∨ k = 10 ∨ k = 11 by omega) with rfl | rfl | rfl | rfl | rfl | rfl | rfl | rfl | rfl | rfl | rfl
 all_goals
  match i, hi, h0 with
  | 0, _, h0 => exact ⟨by simp [isLook, lks], by simp [lks], by simp [lks]⟩
  | 1, hi, h0 => first | (exfalso; simp [lks] at hi; done) | exact ⟨by simp [isLook, lks], by first | (intro _; exact hN (h0 0 (by omega))) | simp [lks], by first | (intro _; exact hO (h0 0 (by omega))) | simp [lks]⟩
  | 2, hi, h0 => first | (exfalso; simp [lks] at hi; done) | exact ⟨by simp [isLook, lks], by first | (intro _; exact hN (h0 0 (by omega))) | simp [lks], by first | (intro _; exact hO (h0 0 (by omega))) | simp [lks]⟩
  | 3, hi, h0 => first | (exfalso; simp [lks] at hi; done) | exact ⟨by simp [isLook, lks], by first | (intro _; exact hN (h0 0 (by omega))) | simp [lks], by first | (intro _; exact hO (h0 0 (by omega))) | (intro _; exact hO (h0 1 (by omega))) | simp [lks]⟩
  | i + 4, hi, h0 => exfalso; simp [lks] at hi <;> omega
end Go.Proofs.YtddddfankeepkaaGreatDoor
