import Derived.Test.YtddddfankeepkaaGreatDoorF39
import Derived.Test.YtddddfankeepkaaGreatDoorF25
namespace Go.Proofs.YtddddfankeepkaaGreatDoor
open Go.RowKit
theorem tk_ok {x : VW} {o : OW} {n : Nat} (hM : MayP x) (hT : tkE x o n = 0) : (1 ≤ o.k ∧ o.k ≤ 11) ∧ rNam o.k (plcF x.vs o.nm 0) (plcF x.vs o.ot 0) = 0 ∧ rSiz o.k o.fr o.tt x.cp (szAt x (plcF x.vs o.nm 0)) = 0 := by
 rw [← refE_eq hM] at hT
 unfold refE at hT
 by_cases h1 : fmE o n = 0
 ·rw [if_neg (by omega)] at hT
  by_cases h2 : rNam o.k (plcF x.vs o.nm 0) (plcF x.vs o.ot 0) = 0
  ·rw [if_neg (by omega)] at hT
   by_cases h3 : rSiz o.k o.fr o.tt x.cp (szAt x (plcF x.vs o.nm 0)) = 0
   ·obtain ⟨k1, k2, _⟩ := fmE_zero h1
    exact ⟨⟨k1, k2⟩, h2, h3⟩
   ·rw [if_pos h3] at hT
    exact absurd hT h3
  ·rw [if_pos h2] at hT
   exact absurd hT h2
 ·rw [if_pos h1] at hT
  exact absurd hT h1
theorem made_any (X : Nat → Prop) (x : VW) (a : Option Addr) (c0 : Nat) (o : OW) (da : Option Addr) (n dn dc : Nat) (w : World) (hM : MayP x) (hT : tkE x o n = 0) (hk : mkK o.k = true) (hR : RdVX X w.heap.size w a x.vs) :
  Calls Tryz.prog 41 #[viewA x a c0, opA o da dn dc] w fun e w' => VlQ X w (madP x o (plcF x.vs o.ot 0)) e w' := by
 obtain ⟨_, hN, _⟩ := tk_ok hM hT
 have hl : x.vs.length ≤ 16777216 := by have := hM.len; omega
 obtain ⟨_, hO⟩ := nam_there hN
 obtain ⟨k, nm, ot, fr, tt⟩ := o
 dsimp only at hk hO ⊢
 have h3 : k = 1 ∨ k = 2 ∨ k = 3 := by unfold mkK at hk; simp at hk; omega
 rcases h3 with rfl | rfl | rfl
 ·exact made_1 X x a c0 nm ot fr tt da dn dc w
 ·obtain ⟨i, hi, e, _⟩ := plc_there (hO (by decide))
  rw [e]
  exact made_2 X x a c0 nm ot fr tt da dn dc w hl hR i hi e
 ·obtain ⟨i, hi, e, _⟩ := plc_there (hO (by decide))
  rw [e]
  exact made_3 X x a c0 nm ot fr tt da dn dc w hl hR i hi e
theorem turned_any (X : Nat → Prop) (x : VW) (a : Option Addr) (c0 : Nat) (o : OW) (da : Option Addr) (n dn dc : Nat) (k : Nat) (hk : k < x.vs.length) (va : Option Addr) (vc : Nat) (w : World) (hM : MayP x) (hT : tkE x o n = 0) (hp : plcF x.vs o.nm 0 = (k : Int)) (h1 : mkK o.k = false) (h6 : o.k ≠ 6) (h11 : o.k ≠ 11) (hR : RdVX X w.heap.size w a x.vs) (hv : RdR w.heap.size w va x.vs[k].mp) (hvn : va = none → vc = 0) (hvx : NoX X va x.vs[k].mp) (hX : ∀ q, X q → q < w.heap.size) :
  Calls Tryz.prog 44 #[viewA x a c0, opA o da dn dc, volA x.vs[k] va vc] w fun e w' => VlQ X w (turP x o (plcF x.vs o.ot 0) x.vs[k]) e w' := by
 obtain ⟨⟨k1, k2⟩, hN, hS⟩ := tk_ok hM hT
 have hl : x.vs.length ≤ 16777216 := by have := hM.len; omega
 obtain ⟨_, hO⟩ := nam_there hN
 have V := hM.vol _ (List.getElem_mem hk)
 have hsz : szAt x (plcF x.vs o.nm 0) = x.vs[k].sz := by unfold szAt; rw [hp, if_pos (by omega), volAt_eq hk]
 rw [hsz] at hS
 obtain ⟨kk, nm, ot, fr, tt⟩ := o
 dsimp only at *
 have hlen : x.vs[k].mp.length ≤ 16777216 := by have := nf_len _ _ _ ((rgO_nf _ _ _).2 V.mp) (by have := V.s1; omega); have := V.s2; have := V.s1; omega
 obtain ⟨n1, hn1⟩ : ∃ n1 : Nat, x.vs[k].sz = (n1 : Int) := ⟨x.vs[k].sz.toNat, by have := V.s1; omega⟩
 have hn2 : n1 ≤ 262144 := by have := V.s2; omega
 rcases kind_cases k1 k2 with rfl | rfl | rfl | rfl | rfl | rfl | rfl | rfl | rfl | rfl | rfl
 ·simp [mkK] at h1
 ·simp [mkK] at h1
 ·simp [mkK] at h1
 ·have ht : 1 ≤ tt ∧ tt ≤ 262144 := by unfold rSiz at hS; simp at hS; omega
  exact turned_4 X x a c0 nm ot fr tt da dn dc x.vs[k] va vc w hv hvn hX _ V.mp V.s2 hlen tt.toNat (by omega) (by omega)
 ·exact turned_5 X x a c0 nm ot fr tt da dn dc x.vs[k] va vc w hv hvn hvx _
 ·exact absurd rfl h6
 ·obtain ⟨i, hi, e, _⟩ := plc_there (hO (by decide))
  rw [e]
  exact turned_7 X x a c0 nm ot fr tt da dn dc x.vs[k] va vc w hl hR i hi e
 ·have ht : 0 ≤ fr ∧ fr < x.vs[k].sz := by unfold rSiz at hS; simp at hS; omega
  exact turned_8 X x a c0 nm ot fr tt da dn dc x.vs[k] va vc w hv hvn hX _ V.mp hlen fr.toNat n1 (by omega) hn1 (by omega) hn2
 ·have ht : 0 ≤ fr ∧ tt ≤ x.vs[k].sz ∧ fr ≤ tt := by unfold rSiz at hS; simp at hS; omega
  exact turned_9 X x a c0 nm ot fr tt da dn dc x.vs[k] va vc w hv hvn hX _ V.mp hlen fr.toNat tt.toNat n1 (by omega) (by omega) hn1 (by omega) (by omega) hn2
 ·have ht : 0 ≤ fr ∧ tt ≤ x.vs[k].sz ∧ fr ≤ tt := by unfold rSiz at hS; simp at hS; omega
  exact turned_10 X x a c0 nm ot fr tt da dn dc x.vs[k] va vc w hv hvn hX _ V.mp hlen fr.toNat tt.toNat n1 (by omega) (by omega) hn1 (by omega) (by omega) hn2
 ·exact absurd rfl h11
end Go.Proofs.YtddddfankeepkaaGreatDoor
