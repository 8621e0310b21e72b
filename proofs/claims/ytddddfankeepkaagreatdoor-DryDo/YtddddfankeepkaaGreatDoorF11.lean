import Derived.Test.YtddddfankeepkaaGreatDoorF09
import Derived.Test.YtddddfankeepkaaGreatDoorF10
import Derived.Deep.RegionHeld3
namespace Go.Proofs.YtddddfankeepkaaGreatDoor
open Go.RowKit
theorem RgB.fz {w : World} {P : Nat} {r : Rg} (h : RgB w P r) (i : Nat) : w.frozen? ⟨P, i, none⟩ = false := by unfold RgB at h; simp [World.frozen?, h]
theorem set2cells (u : World) (P g k : Nat) (x y : Value) (h : g ≠ P) : ((u.setCell ⟨P, 0, none⟩ x).setCell ⟨P, 1, none⟩ y).cell? ⟨g, k, none⟩ = u.cell? ⟨g, k, none⟩ := by
 have e : ((u.setCell ⟨P, 0, none⟩ x).setCell ⟨P, 1, none⟩ y).heap[g]? = u.heap[g]? := by
  rw [Below.heap_setCell _ _ _ _ (by exact h), Below.heap_setCell _ _ _ _ (by exact h)]
 simp only [World.cell?, e]
theorem RgB.set {u : World} {P : Nat} {r : Rg} (h : RgB u P r) (y : Rg) : RgB ((u.setCell ⟨P, 0, none⟩ (.int .i64 y.f)).setCell ⟨P, 1, none⟩ (.int .i64 y.t)) P y := by
 unfold RgB at *
 simp [World.setCell, Array.getElem?_modify, h]
theorem below_set2 {B P : Nat} {w u : World} (h : Below B w u) (hP : B ≤ P) (x y : Value) : Below B w ((u.setCell ⟨P, 0, none⟩ x).setCell ⟨P, 1, none⟩ y) :=
 (h.setCell (p := ⟨P, 0, none⟩) hP x).setCell (p := ⟨P, 1, none⟩) hP y
theorem below_dr {B : Nat} {w u : World} (h : Below B w u) : Below B w u.drew := ⟨h.os, h.tape, h.output, h.size, h.block⟩
structure JnH (B : Nat) (w : World) (v : Value) (rs : List Rg) (r : Rg) : Prop where
 met : ∀ u, Below w.heap.size w u → Calls Tryz.prog 110 #[v, .agg #[.int .i64 (wid r).f, .int .i64 (wid r).t]] u fun e u' => e = .returned (.tuple #[.int .i64 (metI rs (wid r) : Int), .int .i64 ((metI rs (wid r) : Int) + (metJ rs (wid r) : Int))]) ∧ Below u.heap.size u u'
 ins : ∀ u h, Below w.heap.size w u → w.heap.size ≤ h → RgB u h r → emp r = false → metJ rs (wid r) = 0 → Calls Tryz.prog 112 #[v, .int .i64 (metI rs (wid r) : Int), .int .i64 (metI rs (wid r) : Int), .slice (some ⟨h, 0, none⟩) 1 1] u fun e u' => JnQ B w v (joinP rs r) e u'
 rep : ∀ u h y, Below w.heap.size w u → w.heap.size ≤ h → RgB u h y → y = ⟨min r.f (rs.getD (metI rs (wid r)) R0).f, max r.t (rs.getD (metI rs (wid r) + metJ rs (wid r) - 1) R0).t⟩ → emp r = false → 0 < metJ rs (wid r) → Calls Tryz.prog 112 #[v, .int .i64 (metI rs (wid r) : Int), .int .i64 ((metI rs (wid r) : Int) + (metJ rs (wid r) : Int)), .slice (some ⟨h, 0, none⟩) 1 1] u fun e u' => JnQ B w v (joinP rs r) e u'
theorem own_lt {B : Nat} {w : World} {v : Value} {rs : List Rg} (h : OwR B w v rs) {x : Nat} (hx : w.heap.size ≤ x) : v.ownBlock ≠ some x := fun e => by
 have := (own_blk h e).2.1
 omega
theorem jnH (B : Nat) (w : World) (v : Value) (rs : List Rg) (r : Rg) (hl : rs.length ≤ 16777216) (hB : B ≤ w.heap.size) (hv : OwR B w v rs) : JnH B w v rs r where
 met u hu := met_gen B v rs (wid r) u hl (own_next hv hu)
 ins u h hu hh hR he hJ := by
  have hI := metI_le rs (wid r)
  have hc : u.heap[h]? = some (.cells (flatR [r]).toArray 78 (0, 0)) := hR
  have := Repl_ins B rs.length h (metI rs (wid r)) v (flatR rs) (flatR [r]) u (own_next hv hu) hc (own_lt hv hh) (by simp [flatR]) (flatR_one _) (flatR_one _) hI hl (Nat.le_trans hB hu.size)
  refine this.mono fun e u' hq => ?_
  have e2 : joinP rs r = spl rs (metI rs (wid r)) (metI rs (wid r)) [r] := by unfold joinP; rw [if_neg (by simp [he]), if_pos hJ]
  rw [e2]
  refine JnQ.of (Nat.le_refl _) hI hu ?_
  rw [show metI rs (wid r) + [r].length + (rs.length - metI rs (wid r)) = rs.length + 1 by simp; omega]
  exact hq
 rep u h y hu hh hR hy he hJ := by
  have hIJ := metJ_le rs (wid r)
  have hc : u.heap[h]? = some (.cells (flatR [y] ++ []).toArray 78 (0, 0)) := hR
  obtain ⟨g, c, rfl, hg⟩ : ∃ g c, v = .slice (some ⟨g, 0, none⟩) rs.length c ∧ v.ownBlock = some g := by
   rcases own_form hv with ⟨_, q⟩ | h
   ·have := hIJ; omega
   ·exact h
  have hne : h ≠ g := fun e => own_lt hv hh (by rw [hg, e])
  have := Repl_any B g h (metI rs (wid r)) (metI rs (wid r) + metJ rs (wid r)) 1 rs.length c 1 (flatR rs) (flatR [y]) [] u (own_next hv hu) hc hne (by simp [flatR]) (by omega) (flatR_one _) (flatR_one _) (by omega) hIJ hl (Nat.le_trans hB hu.size)
  rw [show ((metI rs (wid r) + metJ rs (wid r) : Nat) : Int) = (metI rs (wid r) : Int) + (metJ rs (wid r) : Int) by omega] at this
  refine this.mono fun e u' hq => ?_
  have e2 : joinP rs r = spl rs (metI rs (wid r)) (metI rs (wid r) + metJ rs (wid r)) [y] := by unfold joinP; rw [if_neg (by simp [he]), if_neg (by omega), hy]
  rw [e2]
  exact JnQ.of (by omega) hIJ hu hq
def JnI (B : Nat) (w : World) (v : Value) (rs : List Rg) (r : Rg) (l i : Value) (wr : World) : Prop := (i = .int .i64 0 ∧ v = l ∧ w = wr) ∨ (i = .int .i64 1 ∧ ∃ v', v' = l ∧ JnQ B w v (joinP rs r) (.returned v') wr)
set_option maxRecDepth 100000 in
set_option maxHeartbeats 8000000 in
theorem join_any (B p : Nat) (v : Value) (rs : List Rg) (r : Rg) (w : World) (hl : rs.length ≤ 16777216) (hB : B ≤ w.heap.size) (hv : OwR B w v rs) (hp : RgB w p r) :
  Calls Tryz.prog 101 #[v, .slice (some ⟨p, 0, none⟩) 1 1] w fun e w' => JnQ B w v (joinP rs r) e w' := by
 have HJ := hid (jnH B w v rs r hl hB hv)
 have HV := hid hv
 have HL := hid hl
 obtain ⟨p0, p1⟩ := hp.cs
 have hpl := hp.lt
 clear hv hB hl hp
 go_enter Tryz.func101, Tryz.ntmps101
 go_wp2_with fail
 go_loopw [0, 11] (fun l i wr => JnI B w v rs r l i wr) (fun _ i _ => 1 - (intOf i).toNat)
 case atStart => exact .inl ⟨rfl, rfl, rfl⟩
 case round =>
  rcases hrel with ⟨rfl, rfl, rfl⟩ | ⟨rfl, v', rfl, hq⟩
  ·obtain ⟨W1, hW1⟩ : ∃ W1, W1 = w.alloc (.cells #[.int .i64 r.f, .int .i64 r.t] 78) := ⟨_, rfl⟩
   have b1 : Below w.heap.size w W1 := by rw [hW1]; exact below1 _ _
   have hP1 : RgB W1 w.heap.size r := by rw [hW1]; exact heap_new _ _
   have HC := hid (isEmpty_any r W1)
   have HB1 := hid b1
   have HP1 := hid hP1
   have HW1 := hid hW1
   clear b1 hP1 hW1
   by_cases he : r.t ≤ r.f
   ·have HE : Hid (joinP rs r = rs) := by unfold joinP; rw [if_pos (by unfold emp; simpa using he)]; exact rfl
    rw [decide_eq_true he] at HC
    clear he
    go_wp2_with fail
    rw [← HW1.out]
    refine HC.out.mono ?_
    rintro e w2 ⟨rfl, hb2⟩
    have HQ := hid (JnQ.same HV.out (HB1.out.trans (hb2.mono HB1.out.size)))
    clear hb2 HC
    go_wp2
    go_roundw
    case rel => exact .inr ⟨rfl, v, rfl, by rw [HE.out]; exact HQ.out⟩
    case measure => simp [intOf]
   ·have HE : Hid (emp r = false) := by unfold emp; exact decide_eq_false he
    rw [decide_eq_false he] at HC
    clear he
    have HM := hid HJ.out.met
    have HI := hid HJ.out.ins
    have HR := hid HJ.out.rep
    have hIJ := metJ_le rs (wid r)
    have hn1 := HL.out
    generalize metI rs (wid r) = I at *
    generalize metJ rs (wid r) = J at *
    dsimp only [wid] at HM
    go_wp2_with fail
    rw [← HW1.out]
    refine HC.out.mono ?_
    rintro e w2 ⟨rfl, hb2⟩
    have hP2 := HP1.out.keep (hb2.block _ HP1.out.lt)
    obtain ⟨c0, c1⟩ := hP2.cs
    have HB2 := hid (HB1.out.trans (hb2.mono HB1.out.size))
    have HP2 := hid hP2
    clear hb2 hP2 HC HB1 HP1 HW1
    go_wp2_with fail
    refine (HM.out w2 HB2.out).mono ?_
    rintro e w3 ⟨rfl, hb3⟩
    have hP3 := HP2.out.keep (hb3.block _ HP2.out.lt)
    obtain ⟨c0, c1⟩ := hP3.cs
    have HB3 := hid (HB2.out.trans (hb3.mono HB2.out.size))
    have HP3 := hid hP3
    clear hb3 hP3 HB2 HP2 HM
    by_cases hJ : J = 0
    ·have HI2 := hid (fun u h a b c => HI.out u h a b c HE.out hJ)
     have k2 : ¬ ((I : Int) < (I : Int) + (J : Int)) := by omega
     have k3 : (I : Int) + (J : Int) = (I : Int) := by omega
     clear HI HR hJ
     obtain ⟨W4, hW4⟩ : ∃ W4, W4 = w3.alloc (.cells #[.int .i64 r.f, .int .i64 r.t] 78) := ⟨_, rfl⟩
     have HB4 : Hid (Below w.heap.size w W4) := by rw [hW4]; exact HB3.out.alloc HB3.out.size _
     have HP4 : Hid (RgB W4 w3.heap.size r) := by rw [hW4]; exact heap_new _ _
     have HW4 := hid hW4
     clear hW4
     go_wp2_with fail
     rw [← HW4.out]
     refine (HI2.out W4 _ HB4.out HB3.out.size HP4.out).mono ?_
     rintro e w5 ⟨v', rfl, hq1, hq2⟩
     have HQ := hid (show JnQ B w v (joinP rs r) (.returned v') w5 from ⟨v', rfl, hq1, hq2⟩)
     clear hq1 hq2 HI2
     go_wp2
     go_roundw
     case rel => exact .inr ⟨rfl, v', rfl, HQ.out⟩
     case measure => simp [intOf]
    ·obtain ⟨g, c, rfl, hg⟩ : ∃ g c, v = .slice (some ⟨g, 0, none⟩) rs.length c ∧ v.ownBlock = some g := by
      rcases own_form HV.out with ⟨_, q⟩ | h
      ·omega
      ·exact h
     obtain ⟨a', c', e', hRd, _⟩ := OwR.rd (B := B) (own_next HV.out HB3.out)
     simp only [Value.slice.injEq, true_and] at e'
     obtain ⟨rfl, rfl⟩ := e'
     obtain ⟨b', off', e', _, hcl⟩ := hRd.resolve_left (fun e => by rw [e] at hIJ; simp at hIJ; omega)
     simp only [Option.some.injEq, Addr.mk.injEq, and_true] at e'
     obtain ⟨rfl, rfl⟩ := e'
     obtain ⟨K, hK⟩ : ∃ K, I + J = K + 1 := ⟨I + J - 1, by omega⟩
     have d0 := (hcl I (by omega)).1
     have d1 := (hcl K (by omega)).2
     rw [Nat.zero_add] at d0 d1
     have hR1 : rs[I]'(by omega) = rs.getD I R0 := by rw [List.getD_eq_getElem?_getD, List.getElem?_eq_getElem (by omega)]; rfl
     have hR2 : rs[K]'(by omega) = rs.getD (I + J - 1) R0 := by rw [List.getD_eq_getElem?_getD, show I + J - 1 = K by omega, List.getElem?_eq_getElem (by omega)]; rfl
     rw [hR1] at d0
     rw [hR2] at d1
     generalize rs.getD I R0 = ra at *
     generalize rs.getD (I + J - 1) R0 = rb at *
     have k1 : wrap64 ((I : Int) + (J : Int) - 1) = (K : Int) := by
      unfold wrap64
      omega
     have k1' : IntKind.i64.wrap ((I : Int) + (J : Int) - 1) = (K : Int) := by rw [IntKind.wrap_i64]; omega
     have k2 : (I : Int) < (I : Int) + (J : Int) := by omega
     have k3 : (I : Int) < (rs.length : Int) := by omega
     have k4 : (K : Int) < (rs.length : Int) := by omega
     have f0 : w3.frozen? ⟨w.heap.size, 0, none⟩ = false := HP3.out.fz 0
     have f1 : w3.frozen? ⟨w.heap.size, 1, none⟩ = false := HP3.out.fz 1
     have hgP : g ≠ w.heap.size := by
      intro e
      exact own_lt HV.out (Nat.le_refl _) (by rw [hg, e])
     obtain ⟨y, hy⟩ : ∃ y : Rg, y = ⟨min r.f ra.f, max r.t rb.t⟩ := ⟨_, rfl⟩
     have hy1 : min r.f ra.f = y.f := by rw [hy]
     have hy2 : max r.t rb.t = y.t := by rw [hy]
     have q0 := (set2cells w3.drew w.heap.size g (I * 2) (.int .i64 (min r.f ra.f)) (.int .i64 (max r.t rb.t)) hgP).trans d0
     have q1 := (set2cells w3.drew w.heap.size g (K * 2 + 1) (.int .i64 (min r.f ra.f)) (.int .i64 (max r.t rb.t)) hgP).trans d1
     have HY := hid hy
     have HY1 := hid hy1
     have HY2 := hid hy2
     have HJ0 : Hid (0 < J) := by unfold Hid; omega
     clear hcl hR1 hR2 hRd hK hIJ hn1 hg hJ hgP hy hy1 hy2
     have mixed : Tryz.prog.follows Departure.mixedOrders = true := by kernel_rfl
     go_wp2_with fail
     -- R7
     refine Gz (S := fun u => u.cell? ⟨g, I * 2, none⟩ = some (.int .i64 ra.f) ∧ u.cell? ⟨g, K * 2 + 1, none⟩ = some (.int .i64 rb.t)) ⟨d0, d1⟩ (fun hSS => ?_)
     refine Ti 0 rfl ?_
     refine Ti 2 rfl ?_
     refine Ti 3 rfl ?_
     refine Ti 4 rfl ?_
     try simp only [Act.put, zA, zB, zC]
     refine Ti 5 rfl ?_
     refine Ti 6 rfl ?_
     refine Ti 8 rfl ?_
     refine Ti 10 rfl ?_
     try simp only [Act.put, zA, zB, zC]
     refine Ti 11 rfl ?_
     try simp only [Act.put, zA, zB, zC]
     refine wpAnyH_take (i := 12) (oi := ({ dst := some 44, op := Op.binOp BinOp.sub 3 (Operand.tmp 43) (Operand.const (Value.int IntKind.i64 1)) 3, type := 3, pos := _, after := _, guard := none } : Oper)) (v := .int .i64 (K : Int)) rfl (by kernel_rfl) (by kernel_rfl) (by kernel_rfl) (fun _ _ _ h => h) (Or.inl ⟨by rfl, ?_⟩) hSS ?_
     ·intro w9 hSw
      (try dsimp only at hSw)
      (try go_split_ands)
      first | (go_simp; done) | (go_simp; simp [k1']; done)
     try simp only [Act.put, zA, zB, zC]
     refine Ti 13 rfl ?_
     refine Ti 14 rfl ?_
     refine Ti 15 rfl ?_
     try simp only [Act.put, zA, zB, zC]
     refine Rr 1 9 rfl rfl (fun K9 hK9 => ?_) (fun K9 hK9 => ?_)
     go_simp
     refine hK9.out _ _ hSS (fun hSS => ?_)
     try simp only [Act.put, zA, zB, zC]
     refine Ti 7 rfl ?_
     try simp only [Act.put, zA, zB, zC]
     refine Ri 9 rfl (fun K9 hK9 => ?_)
     go_simp
     refine hK9.out _ _ hSS (fun hSS => ?_)
     try simp only [Act.put, zA, zB, zC]
     refine Ti 16 rfl ?_
     refine Ti 17 rfl ?_
     try simp only [Act.put, zA, zB, zC]
     refine Ri 18 rfl (fun K9 hK9 => ?_)
     go_simp
     refine hK9.out _ _ ⟨q0, q1⟩ (fun hSS => ?_)
     try simp only [Act.put, zA, zB, zC]
     refine Dn ?_
     rotate_left
     go_simp
     refine hK9.out _ _ hSS (fun hSS => ?_)
     try simp only [Act.put, zA, zB, zC]
     refine Ti 16 rfl ?_
     try simp only [Act.put, zA, zB, zC]
     refine Ri 1 rfl (fun K9 hK9 => ?_)
     go_simp
     refine hK9.out _ _ hSS (fun hSS => ?_)
     try simp only [Act.put, zA, zB, zC]
     refine Ti 7 rfl ?_
     try simp only [Act.put, zA, zB, zC]
     refine Ti 17 rfl ?_
     try simp only [Act.put, zA, zB, zC]
     refine Ri 18 rfl (fun K9 hK9 => ?_)
     go_simp
     refine hK9.out _ _ ⟨q0, q1⟩ (fun hSS => ?_)
     try simp only [Act.put, zA, zB, zC]
     refine Dn ?_
     all_goals
      obtain ⟨W4, hW4⟩ : ∃ W4, W4 = ((w3.setCell ⟨w.heap.size, 0, none⟩ (.int .i64 (min r.f ra.f))).setCell ⟨w.heap.size, 1, none⟩ (.int .i64 (max r.t rb.t))).drew := ⟨_, rfl⟩
      rw [← hW4]
      have HB4 : Hid (Below w.heap.size w W4) := by rw [hW4]; exact below_dr (below_set2 HB3.out (Nat.le_refl _) _ _)
      have hP4 : RgB W4 w.heap.size y := by
       have := HP3.out.set y
       rw [← HY1.out, ← HY2.out] at this
       rw [hW4]
       exact this
      obtain ⟨c0, c1⟩ := hP4.cs
      obtain ⟨W5, hW5⟩ : ∃ W5, W5 = W4.alloc (.cells #[.int .i64 y.f, .int .i64 y.t] 78) := ⟨_, rfl⟩
      have HB5 : Hid (Below w.heap.size w W5) := by rw [hW5]; exact HB4.out.alloc HB4.out.size _
      have HP5 : Hid (RgB W5 W4.heap.size y) := by rw [hW5]; exact heap_new _ _
      have HR2 := hid (HR.out W5 W4.heap.size y HB5.out HB4.out.size HP5.out HY.out HE.out HJ0.out)
      have HW5 := hid hW5
      clear hW4 hP4 hW5 HR HI HP3 HY HY1 HY2 q0 q1 d0 d1 k1 k1' k2 k3 k4 f0 f1 hSS
      go_wp2_with fail
      rw [← HW5.out]
      refine HR2.out.mono ?_
      rintro e w6 ⟨v', rfl, hq1, hq2⟩
      have HQ := hid (show JnQ B w (.slice (some ⟨g, 0, none⟩) rs.length c) (joinP rs r) (.returned v') w6 from ⟨v', rfl, hq1, hq2⟩)
      clear hq1 hq2 HR2
      go_wp2
      go_roundw
      case rel => exact .inr ⟨rfl, v', rfl, HQ.out⟩
      case measure => simp [intOf]
  ·have HQ := hid hq
   clear hq
   go_wp2
   go_ret
   exact HQ.out
end Go.Proofs.YtddddfankeepkaaGreatDoor
namespace Go.Proofs.YtddddfankeepkaaGreatDoor
open Go.RowKit
def ctL (rs : List Rg) (r : Rg) : List Rg := [⟨(rs.getD (metI rs r) R0).f, r.f⟩, ⟨r.t, (rs.getD (metI rs r + metJ rs r - 1) R0).t⟩]
structure CtH (B : Nat) (w : World) (v : Value) (rs : List Rg) (r : Rg) : Prop where
 met : ∀ u, Below w.heap.size w u → Calls Tryz.prog 110 #[v, .agg #[.int .i64 r.f, .int .i64 r.t]] u fun e u' => e = .returned (.tuple #[.int .i64 (metI rs r : Int), .int .i64 ((metI rs r : Int) + (metJ rs r : Int))]) ∧ Below u.heap.size u u'
 rep : ∀ u h cs, Below w.heap.size w u → w.heap.size ≤ h → u.heap[h]? = some (.cells (cs : List Value).toArray 78 (0, 0)) → cs.length = 4 → cs.take (((ctL rs r).filter nem).length * 2) = flatR ((ctL rs r).filter nem) → emp r = false → 0 < metJ rs r → Calls Tryz.prog 112 #[v, .int .i64 (metI rs r : Int), .int .i64 ((metI rs r : Int) + (metJ rs r : Int)), .slice (some ⟨h, 0, none⟩) ((ctL rs r).filter nem).length 2] u fun e u' => JnQ B w v (cutP rs r) e u'
theorem ctH (B : Nat) (w : World) (v : Value) (rs : List Rg) (r : Rg) (hl : rs.length ≤ 16777216) (hB : B ≤ w.heap.size) (hv : OwR B w v rs) : CtH B w v rs r where
 met u hu := met_gen B v rs r u hl (own_next hv hu)
 rep u h cs hu hh hc h4 ht he hJ := by
  have hIJ := metJ_le rs r
  obtain ⟨g, c, rfl, hg⟩ : ∃ g c, v = .slice (some ⟨g, 0, none⟩) rs.length c ∧ v.ownBlock = some g := by
   rcases own_form hv with ⟨_, q⟩ | h
   ·omega
   ·exact h
  have hne : h ≠ g := fun e => own_lt hv hh (by rw [hg, e])
  have hk : ((ctL rs r).filter nem).length ≤ 2 := List.length_filter_le ..
  have hcs : cs = flatR ((ctL rs r).filter nem) ++ cs.drop (((ctL rs r).filter nem).length * 2) := by rw [← ht, List.take_append_drop]
  rw [hcs] at hc
  have := Repl_any B g h (metI rs r) (metI rs r + metJ rs r) ((ctL rs r).filter nem).length rs.length c 2 (flatR rs) (flatR ((ctL rs r).filter nem)) _ u (own_next hv hu) hc hne (flatR_len _) hk (flatR_one _) (flatR_one _) (by omega) hIJ hl (Nat.le_trans hB hu.size)
  rw [show ((metI rs r + metJ rs r : Nat) : Int) = (metI rs r : Int) + (metJ rs r : Int) by omega] at this
  refine this.mono fun e u' hq => ?_
  have e2 : cutP rs r = spl rs (metI rs r) (metI rs r + metJ rs r) ((ctL rs r).filter nem) := by unfold cutP; rw [if_neg (by simp [he]), if_neg (by omega)]; rfl
  rw [e2]
  exact JnQ.of (by omega) hIJ hu hq
def CtI (B : Nat) (w : World) (v : Value) (rs : List Rg) (r : Rg) (l i : Value) (wr : World) : Prop := (i = .int .i64 0 ∧ v = l ∧ w = wr) ∨ (i = .int .i64 1 ∧ ∃ v', v' = l ∧ JnQ B w v (cutP rs r) (.returned v') wr)
set_option maxRecDepth 100000 in
set_option maxHeartbeats 8000000 in
theorem cut_any (B p : Nat) (v : Value) (rs : List Rg) (r : Rg) (w : World) (hl : rs.length ≤ 16777216) (hB : B ≤ w.heap.size) (hv : OwR B w v rs) (hp : RgB w p r) :
  Calls Tryz.prog 96 #[v, .slice (some ⟨p, 0, none⟩) 1 1] w fun e w' => JnQ B w v (cutP rs r) e w' := by
 have HJ := hid (ctH B w v rs r hl hB hv)
 have HV := hid hv
 have HL := hid hl
 obtain ⟨p0, p1⟩ := hp.cs
 have hpl := hp.lt
 clear hv hB hl hp
 go_enter Tryz.func96, Tryz.ntmps96
 go_wp2_with fail
 go_loopw [0, 13] (fun l i wr => CtI B w v rs r l i wr) (fun _ i _ => 1 - (intOf i).toNat)
 case atStart => exact .inl ⟨rfl, rfl, rfl⟩
 case round =>
  rcases hrel with ⟨rfl, rfl, rfl⟩ | ⟨rfl, v', rfl, hq⟩
  ·obtain ⟨W1, hW1⟩ : ∃ W1, W1 = w.alloc (.cells #[.int .i64 r.f, .int .i64 r.t] 78) := ⟨_, rfl⟩
   have b1 : Below w.heap.size w W1 := by rw [hW1]; exact below1 _ _
   have hP1 : RgB W1 w.heap.size r := by rw [hW1]; exact heap_new _ _
   have HM := hid (HJ.out.met W1 b1)
   have HR := hid HJ.out.rep
   have hIJ := metJ_le rs r
   have hn1 := HL.out
   have HX0 : Hid (emp r = true → cutP rs r = rs) := fun h => by unfold cutP; rw [if_pos h]
   have HX1 : Hid (metJ rs r = 0 → cutP rs r = rs) := fun h => by
    unfold cutP
    by_cases q : emp r = true
    ·rw [if_pos q]
    ·rw [if_neg q, if_pos h]
   have HCL : Hid (ctL rs r = [⟨(rs.getD (metI rs r) R0).f, r.f⟩, ⟨r.t, (rs.getD (metI rs r + metJ rs r - 1) R0).t⟩]) := rfl
   generalize ctL rs r = cl at *
   generalize metI rs r = I at *
   generalize metJ rs r = J at *
   have HB1 := hid b1
   have HP1 := hid hP1
   have HW1 := hid hW1
   clear b1 hP1 hW1
   go_wp2_with fail
   rw [← HW1.out]
   refine HM.out.mono ?_
   rintro e w2 ⟨rfl, hb2⟩
   have hP2 := HP1.out.keep (hb2.block _ HP1.out.lt)
   obtain ⟨c0, c1⟩ := hP2.cs
   have HB2 := hid (HB1.out.trans (hb2.mono HB1.out.size))
   have HP2 := hid hP2
   have HC := hid (isEmpty_any r w2)
   clear hb2 hP2 HM HB1 HP1 HW1
   by_cases he : r.t ≤ r.f
   ·have HE : Hid (cutP rs r = rs) := HX0.out (by unfold emp; simpa using he)
    rw [decide_eq_true he] at HC
    clear he HX0 HX1
    go_wp2_with fail
    refine HC.out.mono ?_
    rintro e w3 ⟨rfl, hb3⟩
    have HQ := hid (JnQ.same HV.out (HB2.out.trans (hb3.mono HB2.out.size)))
    clear hb3 HC
    go_wp2
    go_roundw
    case rel => exact .inr ⟨rfl, v, rfl, by rw [HE.out]; exact HQ.out⟩
    case measure => simp [intOf]
   ·have HE : Hid (emp r = false) := by unfold emp; exact decide_eq_false he
    rw [decide_eq_false he] at HC
    clear he HX0
    by_cases hJ : J = 0
    ·have HE1 : Hid (cutP rs r = rs) := HX1.out hJ
     have k3 : (I : Int) + (J : Int) = (I : Int) := by omega
     clear hJ HX1
     go_wp2_with fail
     refine HC.out.mono ?_
     rintro e w3 ⟨rfl, hb3⟩
     have HQ := hid (JnQ.same HV.out (HB2.out.trans (hb3.mono HB2.out.size)))
     clear hb3 HC
     go_wp2
     go_roundw
     case rel => exact .inr ⟨rfl, v, rfl, by rw [HE1.out]; exact HQ.out⟩
     case measure => simp [intOf]
    ·have k2 : ¬ ((I : Int) = (I : Int) + (J : Int)) := by omega
     clear HX1
     go_wp2_with fail
     refine HC.out.mono ?_
     rintro e w3 ⟨rfl, hb3⟩
     have hP3 := HP2.out.keep (hb3.block _ HP2.out.lt)
     obtain ⟨c0, c1⟩ := hP3.cs
     have HB3 := hid (HB2.out.trans (hb3.mono HB2.out.size))
     have HP3 := hid hP3
     clear hb3 hP3 HC HB2 HP2
     obtain ⟨g, c, rfl, hg⟩ : ∃ g c, v = .slice (some ⟨g, 0, none⟩) rs.length c ∧ v.ownBlock = some g := by
      rcases own_form HV.out with ⟨_, q⟩ | h
      ·omega
      ·exact h
     obtain ⟨a', c', e', hRd, _⟩ := OwR.rd (B := B) (own_next HV.out HB3.out)
     simp only [Value.slice.injEq, true_and] at e'
     obtain ⟨rfl, rfl⟩ := e'
     obtain ⟨b', off', e', hgl, hcl⟩ := hRd.resolve_left (fun e => by rw [e] at hIJ; simp at hIJ; omega)
     simp only [Option.some.injEq, Addr.mk.injEq, and_true] at e'
     obtain ⟨rfl, rfl⟩ := e'
     obtain ⟨K, hK⟩ : ∃ K, I + J = K + 1 := ⟨I + J - 1, by omega⟩
     have d0 := (hcl I (by omega)).1
     have d1 := (hcl K (by omega)).2
     rw [Nat.zero_add] at d0 d1
     have hR1 : rs[I]'(by omega) = rs.getD I R0 := by rw [List.getD_eq_getElem?_getD, List.getElem?_eq_getElem (by omega)]; rfl
     have hR2 : rs[K]'(by omega) = rs.getD (I + J - 1) R0 := by rw [List.getD_eq_getElem?_getD, show I + J - 1 = K by omega, List.getElem?_eq_getElem (by omega)]; rfl
     rw [hR1] at d0
     rw [hR2] at d1
     generalize rs.getD I R0 = ra at *
     generalize rs.getD (I + J - 1) R0 = rb at *
     have k1 : wrap64 ((I : Int) + (J : Int) - 1) = (K : Int) := by
      unfold wrap64
      omega
     have k1' : IntKind.i64.wrap ((I : Int) + (J : Int) - 1) = (K : Int) := by rw [IntKind.wrap_i64]; omega
     have k3 : (I : Int) < (rs.length : Int) := by omega
     have k4 : (K : Int) < (rs.length : Int) := by omega
     have HJ0 : Hid (0 < J) := by unfold Hid; omega
     have k5 : w.heap.size < w3.heap.size := HP3.out.lt
     have mixed : Tryz.prog.follows Departure.mixedOrders = true := by kernel_rfl
     clear hcl hR1 hR2 hRd hK hIJ hn1 hg hJ
     go_wp2_with fail
     go_region_held3 (fun u => u.cell? ⟨w.heap.size, 0, none⟩ = some (.int .i64 r.f) ∧ u.cell? ⟨w.heap.size, 1, none⟩ = some (.int .i64 r.t) ∧ u.cell? ⟨g, I * 2, none⟩ = some (.int .i64 ra.f) ∧ u.cell? ⟨g, K * 2 + 1, none⟩ = some (.int .i64 rb.t)) (first | (exact ⟨by assumption, by assumption, by assumption, by assumption⟩) | go_keep) (fail)
     obtain ⟨W4, hW4⟩ : ∃ W4, W4 = (w3.alloc (.cells #[.int .i64 ra.f, .int .i64 r.f] 78)).drew := ⟨_, rfl⟩
     rw [← hW4]
     have b4 : Below w3.heap.size w3 W4 := by rw [hW4]; exact below_dr (below1 _ _)
     have hP4 := HP3.out.keep (b4.block _ HP3.out.lt)
     obtain ⟨c0, c1⟩ := hP4.cs
     have hL4 : RgB W4 w3.heap.size ⟨ra.f, r.f⟩ := by rw [hW4]; exact heap_new w3 _
     obtain ⟨l0, l1⟩ := hL4.cs
     have d1' : W4.cell? ⟨g, K * 2 + 1, none⟩ = some (.int .i64 rb.t) := (b4.cell (by exact hgl)).trans d1
     have HB4 := hid (HB3.out.trans (b4.mono HB3.out.size))
     have HL4 := hid hL4
     have k6 : w3.heap.size < W4.heap.size := hL4.lt
     have k7 : w.heap.size < W4.heap.size := by omega
     clear hW4 b4 hP4 hL4 d0 d1 HP3 k5
     dsimp only at l0 l1
     go_wp2_with fail
     go_region_held3 (fun u => u.cell? ⟨w.heap.size, 1, none⟩ = some (.int .i64 r.t) ∧ u.cell? ⟨g, K * 2 + 1, none⟩ = some (.int .i64 rb.t)) (first | (exact ⟨by assumption, by assumption⟩) | go_keep) (fail)
     obtain ⟨W5, hW5⟩ : ∃ W5, W5 = (W4.alloc (.cells #[.int .i64 r.t, .int .i64 rb.t] 78)).drew := ⟨_, rfl⟩
     rw [← hW5]
     have b5 : Below W4.heap.size W4 W5 := by rw [hW5]; exact below_dr (below1 _ _)
     have hL5 := HL4.out.keep (b5.block _ HL4.out.lt)
     obtain ⟨l0, l1⟩ := hL5.cs
     have hR5 : RgB W5 W4.heap.size ⟨r.t, rb.t⟩ := by rw [hW5]; exact heap_new W4 _
     obtain ⟨m0, m1⟩ := hR5.cs
     have HB5 := hid (HB4.out.trans (b5.mono HB4.out.size))
     obtain ⟨W6, hW6⟩ : ∃ W6, W6 = W5.alloc (.cells #[.int .i64 ra.f, .int .i64 r.f, .int .i64 r.t, .int .i64 rb.t] 78) := ⟨_, rfl⟩
     have HB6 : Hid (Below w.heap.size w W6) := by rw [hW6]; exact HB5.out.alloc HB5.out.size _
     have hBl : BlR W6 W5.heap.size cl := by rw [hW6, HCL.out]; exact heap_new _ _
     have hcl2 : cl.length = 2 := by rw [HCL.out]; rfl
     have HWE := hid (withoutEmpty_any W5.heap.size cl W6 (by omega) hBl)
     rw [hcl2] at HWE
     have HW6 := hid hW6
     have HC2 := hid hcl2
     clear hW5 b5 hL5 hR5 HL4 hW6 hBl hcl2 c0 c1 d1' k6 k7
     dsimp only at l0 l1 m0 m1
     go_wp2_with fail
     rw [← HW6.out]
     refine HWE.out.mono ?_
     rintro e w7 ⟨cs, rfl, hq1, hq2, hq3, hq4⟩
     rw [HC2.out] at hq2 ⊢
     have hb7 : Below w.heap.size w w7 := HB6.out.trans (hq4.below HB6.out.size (fun x hx e => by have := HB5.out.size; omega))
     have HR2 := hid (HR.out w7 W5.heap.size cs hb7 HB5.out.size hq1 hq2 hq3 HE.out HJ0.out)
     clear hq1 hq2 hq3 hq4 hb7 HWE HR HC2 HCL
     generalize (cl.filter nem).length = fk at *
     go_wp2_with fail
     refine HR2.out.mono ?_
     rintro e w8 ⟨v', rfl, hq1, hq2⟩
     have HQ := hid (show JnQ B w (.slice (some ⟨g, 0, none⟩) rs.length c) (cutP rs r) (.returned v') w8 from ⟨v', rfl, hq1, hq2⟩)
     clear hq1 hq2 HR2
     go_wp2
     go_roundw
     case rel => exact .inr ⟨rfl, v', rfl, HQ.out⟩
     case measure => simp [intOf]
  ·have HQ := hid hq
   clear hq
   go_wp2
   go_ret
   exact HQ.out
end Go.Proofs.YtddddfankeepkaaGreatDoor
