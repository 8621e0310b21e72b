/-
  scope: Number, of a number of numbers, over a view without volumes.
-/
import Derived.Test.YtbllaacbeagljaaGreatDoorSbc
namespace Go.Proofs.YtbllaacbeagljaaGreatDoor
open Go.RowKit Go.Maps

/-- what Number answers -/
def ansV (x : Rs) : Value := if x.e = 0 then .tuple #[.int .i64 x.v, .int .i64 0, .int .i64 0] else .tuple #[.int .i64 0, .int .i64 x.at_, .int .i64 x.e]
theorem heap4 (w : World) (A B C E : Obj) : ((((w.alloc A).alloc B).alloc C).alloc E).heap[w.heap.size]? = some A := by
  rw [Below.heap_alloc _ _ _ (by simp; omega)]; exact heap3 _ _ _ _
theorem below4 (w : World) (A B C E : Obj) : Below w.heap.size w ((((w.alloc A).alloc B).alloc C).alloc E) := (below3 w A B C).trans ((below1 _ E).mono (by simp; omega))
set_option maxRecDepth 100000 in
set_option maxHeartbeats 8000000 in
theorem Number_ar (d : Nat) (t : Nd) (D : Nat) (a : Option Addr) (l c : Nat) (ca fr nx : Int) (vc : Nat) (w : World) (hA : ArK d t) (hK : KR (fun _ => False) w D a l t.kids) (ht : Pl.isB t.tx ∧ t.tx.length ≤ 16777216) (hV : valZ (planT t) = 0) (hG : GA w) :
    Calls Tryz.prog 10 #[.agg (ncs t.k (strOfNums t.tx) t.n t.at_ a l c), .agg #[.int .i64 ca, .int .i64 fr, .int .i64 nx, .slice none 0 vc]] w fun e w' => e = .returned (ansV (rkN d t)) ∧ Below w.heap.size w w' := by
  have hmf : ∀ (fn : Fn) (first cap : Array Value) (w : World), (Instr.makeFunc fn first cap).run Tryz.prog w = .ok (.func fn first cap) w := fun _ _ _ _ => rfl
  obtain ⟨W, hW⟩ : ∃ W, W = (((w.alloc (.cells (ncs t.k (strOfNums t.tx) t.n t.at_ a l c) 25)).alloc (.cells #[.int .i64 ca, .int .i64 fr, .int .i64 nx, .slice none 0 vc] 32)).alloc (.cells #[.int .i64 0] 3)).alloc (.cells #[.int .i64 0] 27) := ⟨_, rfl⟩
  obtain ⟨b, hb⟩ : ∃ b, b = w.heap.size := ⟨_, rfl⟩
  have hbl : Below w.heap.size w W := by rw [hW]; exact below4 _ _ _ _ _
  have k0 : Cs W b 25 (ncs t.k (strOfNums t.tx) t.n t.at_ a l c) := by rw [hW, hb]; exact heap4 _ _ _ _ _
  have k1 : Cs W (b + 1) 32 #[.int .i64 ca, .int .i64 fr, .int .i64 nx, .slice none 0 vc] := by
    rw [hW, hb]
    simpa using Cs.next (Cs.new (w.alloc (.cells (ncs t.k (strOfNums t.tx) t.n t.at_ a l c) 25)) 32 #[.int .i64 ca, .int .i64 fr, .int .i64 nx, .slice none 0 vc]) (below2 _ (.cells #[.int .i64 0] 3) (.cells #[.int .i64 0] 27))
  have k2 : Cs W (b + 1 + 1) 3 #[.int .i64 0] := by
    rw [hW, hb]
    simpa using Cs.next (Cs.new ((w.alloc (.cells (ncs t.k (strOfNums t.tx) t.n t.at_ a l c) 25)).alloc (.cells #[.int .i64 ca, .int .i64 fr, .int .i64 nx, .slice none 0 vc] 32)) 3 #[.int .i64 0]) (below1 _ (.cells #[.int .i64 0] 27))
  have k3 : Cs W (b + 1 + 1 + 1) 27 #[.int .i64 0] := by
    rw [hW, hb]
    simpa using Cs.new (((w.alloc (.cells (ncs t.k (strOfNums t.tx) t.n t.at_ a l c) 25)).alloc (.cells #[.int .i64 ca, .int .i64 fr, .int .i64 nx, .slice none 0 vc] 32)).alloc (.cells #[.int .i64 0] 3)) 27 #[.int .i64 0]
  have HW := hid hW
  have Hb := hid hb
  have HB := hid hbl
  have K0 := hid k0
  have K1 := hid k1
  have K2 := hid k2
  have K3 := hid k3
  have H34 := hid (planOf_any t D a l c W ht (hK.next hbl))
  have HK := hid (hK.next hbl)
  have HG := hid (hG.next hbl)
  have HA := hid hA
  have hP : PlanN d (planT t) (letT t) := ⟨rfl, rfl, ⟨rfl, fun i hi => by
    obtain rfl : i = 0 := by simp [letT] at hi; omega
    exact hA.ar, by simp [letT]⟩, ⟨fun z hz => by simp [planT] at hz, by simp [planT]⟩⟩
  have H33 := hid (fun (u : World) (g : Nat) (hu : KR (fun _ => False) u (D + 2) (some ⟨g, 0, none⟩) 1 [letT t]) (hGu : GA u) => lookAt_plan d (planT t) (letT t) (D + 2) (some ⟨g, 0, none⟩) 1 1 u hP hV hGu hu)
  have H37 := hid (fun (u : World) (hu : Below W.heap.size W u) => numberOf_all d t D a l c u hA ((hK.next hbl).next hu))
  have H36 := hid (fun (P : Nat → Prop) (rb : Nat) (v : Value) (u : World) (hu : NumR P u d v t) => number_all d P rb t v u hu)
  clear hW hb hbl k0 k1 k2 k3 hA hK ht hV hG hP
  obtain ⟨x, hx⟩ : ∃ x, x = rkN d t := ⟨_, rfl⟩
  rw [← hx] at H36 ⊢
  clear hx
  obtain ⟨tk, ttx, tn, tat, tks⟩ := t
  simp only [planT, letT] at *
  generalize strOfNums ttx = S at *
  obtain ⟨PO, hPO⟩ : ∃ PO : Ending → World → Prop, PO = fun e w' => e = .returned (ansV x) ∧ Below w.heap.size w w' := ⟨_, rfl⟩
  rw [← hPO]
  have HPO := hid hPO
  clear hPO
  go_enter_defers Tryz.func10, Tryz.ntmps10
  go_wp2_with fail
  rw [← HW.out, ← Hb.out]
  refine Calls.mono H34.out ?_
  rintro e w2 ⟨⟨g, rfl, hKp⟩, hb2⟩
  have H33' := hid (H33.out w2 g hKp (HG.out.next hb2))
  have HB2 := hid hb2
  clear hKp hb2 H34 H33
  go_wp2_with fail
  refine Calls.mono H33'.out ?_
  rintro e w3 ⟨rfl, hb3⟩
  have HB3 := hid (HB2.out.trans (hb3.mono HB2.out.size))
  have K13 := K1.out.next HB3.out
  have v0 := K13.cell 0 _ rfl
  have v1 := K13.cell 1 _ rfl
  have v2 := K13.cell 2 _ rfl
  have v3 := K13.cell 3 _ rfl
  clear hb3 K13 H33'
  go_wp2_with fail
  refine Calls.mono (reckonerOf_none ca fr nx vc w3) ?_
  rintro e w4 ⟨⟨m1, m2, rfl⟩, hb4⟩
  have HB4 := hid (HB3.out.trans (hb4.mono HB3.out.size))
  have K04 := K0.out.next HB4.out
  obtain ⟨n0, n1, n2, n3, n4⟩ := K04.five
  have hlt := K04.lt
  obtain ⟨W5, hW5⟩ : ∃ W5, W5 = w4.alloc (.cells #[.int .i64 fr, .map (some m1), .map (some m2)] 71) := ⟨_, rfl⟩
  have bl5 : Below w4.heap.size w4 W5 := by rw [hW5]; exact below1 _ _
  have HB5 := hid (HB4.out.trans (bl5.mono HB4.out.size))
  have HW5 := hid hW5
  clear hb4 K04 bl5 hW5 v0 v1 v2 v3
  go_wp2_with fail
  rw [← HW5.out]
  refine Calls.mono (H37.out W5 HB5.out) ?_
  rintro e w6 ⟨⟨v, rfl, hv⟩, hb6⟩
  have HB6 := hid (HB5.out.trans (hb6.mono HB5.out.size))
  have HN := hid (H36.out _ w4.heap.size v w6 hv)
  clear hb6 hv H37 H36
  go_wp2_with fail
  refine Calls.mono HN.out ?_
  rintro e w7 ⟨he, hb7⟩
  have HB7 := hid (HB6.out.trans (hb7.mono HB6.out.size))
  have hk2 := K2.out.next HB7.out
  have hk3 := K3.out.next HB7.out
  have hne : ¬ b + 1 + 1 + 1 = b + 1 + 1 := by omega
  have c0 := hk2.cell 0 _ rfl
  have f0 := hk2.fz 0
  have c1 := hk3.cell 0 _ rfl
  have f1 := hk3.fz 0
  clear hb7 HN
  rcases he with ⟨he, rfl⟩ | ⟨he, rfl⟩
  · have HZ : Hid (ansV x = .tuple #[.int .i64 x.v, .int .i64 0, .int .i64 0]) := hid (by unfold ansV; rw [if_pos he])
    have HK2 := hid hk2
    have HK3 := hid hk3
    clear hk2 hk3 he
    go_wp2_with fail
    have hU2 : Cs ((w7.setCell ⟨b + 1 + 1, 0, none⟩ (.int .i64 0)).setCell ⟨b + 1 + 1 + 1, 0, none⟩ (.int .i64 0)) (b + 1 + 1) 3 #[.int .i64 0] := (HK2.out.set 0 (.int .i64 0) rfl).keep (Below.heap_setCell _ _ _ _ (by simp))
    have hU3 : Cs ((w7.setCell ⟨b + 1 + 1, 0, none⟩ (.int .i64 0)).setCell ⟨b + 1 + 1 + 1, 0, none⟩ (.int .i64 0)) (b + 1 + 1 + 1) 27 #[.int .i64 0] := (HK3.out.keep (Below.heap_setCell _ _ _ _ (by simp))).set 0 (.int .i64 0) rfl
    have hbU : Below w.heap.size w ((w7.setCell ⟨b + 1 + 1, 0, none⟩ (.int .i64 0)).setCell ⟨b + 1 + 1 + 1, 0, none⟩ (.int .i64 0)) := by
      have hbw := HB.out.trans (HB7.out.mono HB.out.size)
      have e := Hb.out
      exact (hbw.setCell (by simp only; omega) _).setCell (by simp only; omega) _
    obtain ⟨U, hU⟩ : ∃ U, U = (w7.setCell ⟨b + 1 + 1, 0, none⟩ (.int .i64 0)).setCell ⟨b + 1 + 1 + 1, 0, none⟩ (.int .i64 0) := ⟨_, rfl⟩
    rw [← hU] at hU2 hU3 hbU ⊢
    clear hU
    refine leaves_cons (f := 31) (args := #[.pointer (some ⟨b + 1 + 1, 0, none⟩), .pointer (some ⟨b + 1 + 1 + 1, 0, none⟩)]) (by simp) (by simp [go_sem]) ?_
    refine (catch_idle (b + 1 + 1) (b + 1 + 1 + 1) 0 0 _ hU2 hU3 hne).mono ?_
    rintro e u' w8 ⟨rfl, rfl, rfl⟩
    have e0 := hU2.cell 0 _ rfl
    have e1 := hU3.cell 0 _ rfl
    simp [Leaves, settle, results, Tryz.results10, go_sem, e0, e1]
    refine poOf HPO.out ⟨by rw [HZ.out], ?_⟩
    have e := Hb.out
    exact (hbU.setCell (by simp only; omega) _).setCell (by simp only; omega) _
  · have HZ : Hid (ansV x = .tuple #[.int .i64 0, .int .i64 x.at_, .int .i64 x.e]) := hid (by unfold ansV; rw [if_neg he])
    have HK2 := hid hk2
    have HK3 := hid hk3
    clear hk2 hk3 he
    go_wp2_with fail
    refine leaves_cons (f := 31) (args := #[.pointer (some ⟨b + 1 + 1, 0, none⟩), .pointer (some ⟨b + 1 + 1 + 1, 0, none⟩)]) (by simp) (by simp [go_sem]) ?_
    refine (catch_flt (b + 1 + 1) (b + 1 + 1 + 1) 0 0 x.at_ x.e _ HK2.out HK3.out hne).mono ?_
    rintro e u' w8 ⟨rfl, rfl, w9, hb9, rfl⟩
    have e0 := (HK2.out.next hb9).cell 0 _ rfl
    have e1 := (HK3.out.next hb9).cell 0 _ rfl
    simp [Leaves, settle, results, Tryz.results10, go_sem, e0, e1]
    refine poOf HPO.out ⟨by rw [HZ.out], ?_⟩
    have hbw := HB.out.trans (HB7.out.mono HB.out.size)
    have hbx := hbw.trans (hb9.mono hbw.size)
    have e := Hb.out
    exact (hbx.setCell (by simp only; omega) _).setCell (by simp only; omega) _

end Go.Proofs.YtbllaacbeagljaaGreatDoor
