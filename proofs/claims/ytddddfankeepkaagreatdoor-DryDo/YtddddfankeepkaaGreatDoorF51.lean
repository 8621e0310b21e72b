import Derived.Test.YtddddfankeepkaaGreatDoorF42
import Derived.Test.YtddddfankeepkaaGreatDoorF44
import Derived.Test.YtddddfankeepkaaGreatDoorF45
import Derived.Test.YtddddfankeepkaaGreatDoorF47
import Derived.Test.YtddddfankeepkaaGreatDoorF48
import Derived.Test.YtddddfankeepkaaGreatDoorF49
import Derived.Test.YtddddfankeepkaaGreatDoorF50
import Derived.JoinedCond
import Derived.ChangeOld
import Derived.Below
namespace Go.Proofs.YtddddfankeepkaaGreatDoor.dryDo
open Go.ChangeShapes Go.WideShapes Go.ChangeAt Go.RowKit Go.Proofs.YtddddfankeepkaaGreatDoor.lw
theorem dryDo_law (x : VW) (a : Option Addr) (c0 : Nat) (o : PO) (da : Option Addr) (dc : Nat) (w : World) (ho : okO o) (hx : szV 1048576 1048576 x.vs) (hz : ∀ v ∈ x.vs, v.nm.size ≤ 16777216) (hR : RdV w.heap.size w a x.vs) (hD : Rd w.heap.size w da o.da.length o.da) (hG : GT w) :
  Calls Tryz.prog 4 #[viewA x a c0, opA o.ow da o.da.length dc] w fun e w' => BoQ w true e w' := by
 have hY := fun (u : World) (hu : RdV u.heap.size u a x.vs) => May_any x a c0 u hu (by have := hx.1; omega) hz (fun v hv => by have := hx.2 v hv; omega)
 cases hM : mayB x
 ·rw [hM] at hY
  exact dddo_N x a c0 o _ da dc w rfl ho hx hR hD hG hY
 ·rw [hM] at hY
  exact dddo_Y x a c0 o _ da dc w rfl ho hx hR hD hG hY ((mayB_iff x).1 hM)
set_option maxRecDepth 100000 in
theorem open_op1 {H : Type} {enc : TypeId × Value → H} {W : World} {cs : Array Value} {d : DataW H} {p : List MemPlace} (h : DataW.Trod enc Tryz.prog W 0 (fun _ => true) true 42 (.agg cs) d p) (hz : cs.size = 6) (hb : Rows.uptoBulk d ≤ 1048576) :
  ∃ (o : PO) (a : Option Addr) (c : Nat), Value.agg cs = opA o.ow a o.da.length c ∧ okO o ∧ Rd W.heap.size W a o.da.length o.da := by
 obtain ⟨fuel, hf0⟩ := h
 have hlen : cs.toList.length = 6 := by simpa using hz
 obtain ⟨xs, k, hk, hy, hl, hxl, hf⟩ := DataW.trod_struct Tryz.underlying42 hf0
 obtain ⟨y0, y1, y2, y3, y4, y5, rfl⟩ := six (l := xs) hxl
 obtain ⟨v0, v1, v2, v3, v4, v5, hcs⟩ := six (l := cs.toList) hlen
 obtain rfl : cs = #[v0, v1, v2, v3, v4, v5] := by rw [← Array.toList_inj, hcs]
 have g0 := hf 0 _ rfl
 have g1 := hf 1 _ rfl
 have g2 := hf 2 _ rfl
 have g3 := hf 3 _ rfl
 have g4 := hf 4 _ rfl
 have g5 := hf 5 _ rfl
 simp [co3, co9, co40, Value.cells] at g0 g1 g2 g3 g4 g5
 obtain ⟨q0, e0, rfl, w0⟩ := DataW.trod_int Tryz.underlying3 g0
 obtain ⟨q1, e1, rfl, w1⟩ := DataW.trod_string Tryz.underlying9 g1
 obtain ⟨q2, e2, rfl, w2⟩ := DataW.trod_string Tryz.underlying9 g2
 obtain ⟨q3, e3, rfl, w3⟩ := DataW.trod_int Tryz.underlying3 g3
 obtain ⟨q4, e4, rfl, w4⟩ := DataW.trod_int Tryz.underlying3 g4
 obtain ⟨a, n, c, zs, e5, hn, hR, hbu⟩ := open_bytes g5
 simp only [Prod.mk.injEq] at hy
 rw [hy.1] at hb
 simp only [List.map_cons, List.map_nil, Rows.uptoBulk, Rows.uptoBulkAll] at hb
 simp at e0 e1 e2 e3 e4 e5
 subst e0 e1 e2 e3 e4 e5
 have hzl : zs.length = n := hR.1
 have s1 : q1.data.toList.length = q1.size := by rw [Array.length_toList]; rfl
 have s2 : q2.data.toList.length = q2.size := by rw [Array.length_toList]; rfl
 have b0 := bounds_i64 w0
 have b3 := bounds_i64 w3
 have b4 := bounds_i64 w4
 refine ⟨⟨q0, q1, q2, q3, q4, zs⟩, a, c, by rw [hzl]; rfl, ⟨b0.1, b0.2, b3.1, b3.2, b4.1, b4.2, by show q1.size ≤ _; omega, by show q2.size ≤ _; omega, by show zs.length ≤ _; omega⟩, by rw [hzl]; exact hR⟩
set_option maxRecDepth 100000 in
theorem contract (H : Type) (enc : TypeId × Value → H) (W : World) (base : Nat) (args : Array Value) (ds gs : List (DataW H)) (before : List MemPlace)
  (hval : ∀ (j : Nat) t v, Tryz.f4.params[j]? = some t → args[j]? = some v → Value.okWide Tryz.prog W .any base t v)
  (hW : DataW.Whole enc Tryz.prog Tryz.f4.params.toList Rows.dryDoSpec.vars false W args.toList ds gs before) (hk : Rows.uptoSmall H (ds ++ gs) = true) (hG : GT W) :
  Calls Tryz.prog 4 args W fun e W' => ∃ v, e = .returned v ∧ Rows.dryDoSpec.post enc Tryz.prog Tryz.f4 false true false false W args v W' := by
 have hW' := hW
 obtain ⟨p, q, hA0, hV, rfl, hfz, hnd⟩ := hW
 have hA : DataW.TrodAll enc Tryz.prog W 0 (fun _ => true) true Tryz.f4.params.toList args.toList ds p := hA0
 rw [Tryz.params4] at hA hval
 obtain ⟨v0, vs0, d0, ds0, p0, q0, hargs, rfl, rfl, h0, r0⟩ := trodAll_cons hA
 obtain ⟨v1, vs1, d1, ds1, p1, q1, rfl, rfl, rfl, h1, r1⟩ := trodAll_cons r0
 obtain ⟨rfl, rfl, rfl⟩ := trodAll_nil r1
 obtain rfl : args = #[v0, v1] := by cases args; simp_all
 obtain ⟨rfl, rfl⟩ := trodVars_none hV
 obtain ⟨cs0, rfl, hz0⟩ := okWide_struct Tryz.underlying24 (hval 0 24 v0 rfl rfl)
 obtain ⟨cs1, rfl, hz1⟩ := okWide_struct Tryz.underlying42 (hval 1 42 v1 rfl rfl)
 have k0 := h0
 have k1 := h1
 have lt0 : ∀ x ∈ p0, x.block < W.heap.size := by obtain ⟨m, hm⟩ := k0; exact DataW.trod_lt m _ _ _ hm
 have lt1 : ∀ x ∈ p1, x.block < W.heap.size := by obtain ⟨m, hm⟩ := k1; exact DataW.trod_lt m _ _ _ hm
 simp only [List.append_nil] at hk
 have hb : Rows.uptoBulkAll [d0, d1] ≤ 1048576 := bound hk
 simp only [Rows.uptoBulkAll] at hb
 obtain ⟨x, a, c, e0, hs0, hn0, hR0⟩ := open_view2 h0 (hz0.trans co24) (by omega)
 obtain ⟨o, da, dc, e1, ho, hD⟩ := open_op1 h1 (hz1.trans co42) (by omega)
 clear hA0
 have HL := dryDo_law x a c o da dc W ho hs0 hn0 hR0 hD hG
 rw [← e0, ← e1] at HL
 refine HL.mono fun e W' ⟨he, bel⟩ => ?_
 subst he
 exact ⟨_, rfl, _, _, _, [], _, [], hW', trodAll_mk1 (shut_bool Tryz.underlying4 _), (trodAll_cons_mk (Below.trod laidOut (by kernel_rfl) (of_decide_eq_true (by kernel_rfl)) k0 bel lt0) (trodAll_cons_mk (Below.trod laidOut (by kernel_rfl) (of_decide_eq_true (by kernel_rfl)) k1 bel lt1) trodAll_mk0)), rfl, bel.frame _, fun h => by cases h⟩
set_option maxRecDepth 100000 in
theorem liftedUpto (os : Os) (started : os.Started) (H : Type) (enc : TypeId × Value → H) (F : Stop.Interp) :
  ReturnsInHanded {} Tryz.checked os 4 .any ((Rows.OpenSpec.upto Rows.dryDoSpec).preRow enc Tryz.prog Tryz.f4 Rows.dryDoUptoRow.domain false Rows.dryDoUptoRow.laid) (((Rows.OpenSpec.upto Rows.dryDoSpec).at F).post enc Tryz.prog Tryz.f4 false true false false) := by
 obtain ⟨w0, ho, hf⟩ := fits os
 refine returnsInHanded_of_row (C := Tryz.checked) (s := Rows.OpenSpec.upto Rows.dryDoSpec) ownK started (by kernel_rfl) Tryz.func4
  (witness_row_at (enc := enc) (C := Tryz.checked) false w0 lw.vo ho (hf.vars _) (hf.rest _) hf.ok4
   (OpenSpec.preRow_of_cond 8 (hf.rd4 H enc) (by kernel_rfl) (fun k hk => by cases hk; kernel_rfl) (by kernel_rfl) (hf.laid _))) ?_
 intro W base args ds gs before hval hW _ hc _ hL hsh _
 exact contract H enc W base args ds gs before hval hW (hc _ rfl) (gt_of hsh hL)
set_option maxRecDepth 100000 in
theorem saidUpto : Rows.DryDoUptoSaid :=
 OpenClaim.holds_of_cond 4 Tryz.f4 rfl rfl rfl rfl rfl rfl rfl ⟨rfl, rfl, rfl, rfl, rfl⟩ rfl rfl rfl rfl rfl (by kernel_rfl) Tryz.func4 (by kernel_rfl)
  (of_decide_eq_true (by kernel_rfl)) (by unfold Func.isWrapper; first | (rw [if_pos (by decide +kernel)]; kernel_rfl) | (rw [if_neg (by decide +kernel)]; exact ⟨rfl, rfl⟩))
  (fun os started H enc _ F => by rw [OpenClaim.pre_eq_preRow]; exact liftedUpto os started H enc F)
theorem plain (f : FuncId) (fn : Func) (hf : Tryz.pinned.checked.prog.funcNamed Rows.dryDoUptoRow.func = some f) (hfn : Tryz.pinned.checked.prog.funcs[f]? = some fn) :
  false = Tryz.pinned.checked.prog.looks [] ∧ ∀ (j : Nat) t, fn.params[j]? = some t → Tryz.pinned.checked.prog.wantsStandIn t = false := by
 obtain rfl : f = 4 := Option.some.inj ((show Tryz.prog.funcNamed Rows.dryDoUptoRow.func = some 4 by kernel_rfl).symm.trans hf) |>.symm
 obtain rfl : fn = Tryz.f4 := (Option.some.inj (Tryz.func4.symm.trans hfn)).symm
 refine ⟨by kernel_rfl, fun j t ht => ?_⟩
 rw [Tryz.params4] at ht
 have h : t = 24 ∨ t = 42 := by simpa using Array.mem_of_getElem? ht
 rcases h with rfl | rfl
 ·exact (show Tryz.prog.wantsStandIn 24 = false by kernel_rfl)
 ·exact (show Tryz.prog.wantsStandIn 42 = false by kernel_rfl)
set_option maxRecDepth 100000 in
theorem cardUpto : Rows.DryDoUptoCardSaid :=
 Claim7.holds_tied_plain_at .later [] _ _ _ _ saidUpto (fun _ h => by cases h) (by kernel_rfl) (fun _ h => by cases h) dryDoUpto_row_tie rfl ⟨rfl, rfl⟩ (by kernel_rfl) rfl plain (by kernel_rfl)
end Go.Proofs.YtddddfankeepkaaGreatDoor.dryDo
