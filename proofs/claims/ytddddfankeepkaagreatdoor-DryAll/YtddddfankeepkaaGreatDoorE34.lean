import Derived.Test.YtddddfankeepkaaGreatDoorE27
import Derived.Test.YtddddfankeepkaaGreatDoorE28
import Derived.Test.YtddddfankeepkaaGreatDoorE30
import Derived.Test.YtddddfankeepkaaGreatDoorE31
import Derived.Test.YtddddfankeepkaaGreatDoorE32
import Derived.Test.YtddddfankeepkaaGreatDoorE33
import Derived.JoinedCond
import Derived.ChangeOld
import Derived.Below
namespace Go.Proofs.YtddddfankeepkaaGreatDoor.dryAll
open Go.ChangeShapes Go.WideShapes Go.ChangeAt Go.RowKit Go.Proofs.YtddddfankeepkaaGreatDoor.lw
theorem dryAll_law (x : VW) (a : Option Addr) (c0 : Nat) (la : List PO) (z : Option Addr) (zc : Nat) (w : World) (hl1 : la.length ≤ 2097152) (hx : szV 1048576 1048576 x.vs) (hz : ∀ v ∈ x.vs, v.nm.size ≤ 16777216) (hR : RdV w.heap.size w a x.vs) (hA : RdO w.heap.size w z la) (hG : GT w) :
  Calls Tryz.prog 5 #[viewA x a c0, .slice z la.length zc] w fun e w' => BoQ w true e w' := by
 have hY := fun (u : World) (hu : RdV u.heap.size u a x.vs) => May_any x a c0 u hu (by have := hx.1; omega) hz (fun v hv => by have := hx.2 v hv; omega)
 cases hM : mayB x
 ·rw [hM] at hY
  exact dall_N x a c0 la _ z zc w rfl hl1 hx hR hA hG hY
 ·rw [hM] at hY
  exact dall_Y x a c0 la _ z zc w rfl hl1 hx hR hA hG hY ((mayB_iff x).1 hM)
set_option maxRecDepth 100000 in
theorem contract (H : Type) (enc : TypeId × Value → H) (W : World) (base : Nat) (args : Array Value) (ds gs : List (DataW H)) (before : List MemPlace)
  (hval : ∀ (j : Nat) t v, Tryz.f5.params[j]? = some t → args[j]? = some v → Value.okWide Tryz.prog W .any base t v)
  (hW : DataW.Whole enc Tryz.prog Tryz.f5.params.toList Rows.dryAllSpec.vars false W args.toList ds gs before) (hk : Rows.uptoSmall H (ds ++ gs) = true) (hG : GT W) :
  Calls Tryz.prog 5 args W fun e W' => ∃ v, e = .returned v ∧ Rows.dryAllSpec.post enc Tryz.prog Tryz.f5 false true false false W args v W' := by
 have hW' := hW
 obtain ⟨p, q, hA0, hV, rfl, hfz, hnd⟩ := hW
 have hA : DataW.TrodAll enc Tryz.prog W 0 (fun _ => true) true Tryz.f5.params.toList args.toList ds p := hA0
 rw [Tryz.params5] at hA hval
 obtain ⟨v0, vs0, d0, ds0, p0, q0, hargs, rfl, rfl, h0, r0⟩ := trodAll_cons hA
 obtain ⟨v1, vs1, d1, ds1, p1, q1, rfl, rfl, rfl, h1, r1⟩ := trodAll_cons r0
 obtain ⟨rfl, rfl, rfl⟩ := trodAll_nil r1
 obtain rfl : args = #[v0, v1] := by cases args; simp_all
 obtain ⟨rfl, rfl⟩ := trodVars_none hV
 obtain ⟨cs0, rfl, hz0⟩ := okWide_struct Tryz.underlying24 (hval 0 24 v0 rfl rfl)
 obtain ⟨a1, len1, cap1, rfl⟩ := okWide_slice Tryz.underlying25 (hval 1 25 v1 rfl rfl)
 have k0 := h0
 have k1 := h1
 have lt0 : ∀ x ∈ p0, x.block < W.heap.size := by obtain ⟨m, hm⟩ := k0; exact DataW.trod_lt m _ _ _ hm
 have lt1 : ∀ x ∈ p1, x.block < W.heap.size := by obtain ⟨m, hm⟩ := k1; exact DataW.trod_lt m _ _ _ hm
 simp only [List.append_nil] at hk
 have hb : Rows.uptoBulkAll [d0, d1] ≤ 1048576 := bound hk
 simp only [Rows.uptoBulkAll] at hb
 obtain ⟨x, a, c, e0, hs0, hn0, hR0⟩ := open_view2 h0 (hz0.trans co24) (by omega)
 obtain ⟨la, e1, hO1, hb1⟩ := open_ops h1 (by omega)
 clear hA0
 subst e1
 have HL := dryAll_law x a c la a1 cap1 W (by omega) hs0 hn0 hR0 hO1 hG
 rw [← e0] at HL
 refine HL.mono fun e W' ⟨he, bel⟩ => ?_
 subst he
 exact ⟨_, rfl, _, _, _, [], _, [], hW', trodAll_mk1 (shut_bool Tryz.underlying4 _), (trodAll_cons_mk (Below.trod laidOut (by kernel_rfl) (of_decide_eq_true (by kernel_rfl)) k0 bel lt0) (trodAll_cons_mk (Below.trod laidOut (by kernel_rfl) (of_decide_eq_true (by kernel_rfl)) k1 bel lt1) trodAll_mk0)), rfl, bel.frame _, fun h => by cases h⟩
set_option maxRecDepth 100000 in
theorem liftedUpto (os : Os) (started : os.Started) (H : Type) (enc : TypeId × Value → H) (F : Stop.Interp) :
  ReturnsInHanded {} Tryz.checked os 5 .any ((Rows.OpenSpec.upto Rows.dryAllSpec).preRow enc Tryz.prog Tryz.f5 Rows.dryAllUptoRow.domain false Rows.dryAllUptoRow.laid) (((Rows.OpenSpec.upto Rows.dryAllSpec).at F).post enc Tryz.prog Tryz.f5 false true false false) := by
 obtain ⟨w0, ho, hf⟩ := fits os
 refine returnsInHanded_of_row (C := Tryz.checked) (s := Rows.OpenSpec.upto Rows.dryAllSpec) ownK started (by kernel_rfl) Tryz.func5
  (witness_row_at (enc := enc) (C := Tryz.checked) false w0 lw.pair ho (hf.vars _) (hf.rest _) hf.ok5
   (OpenSpec.preRow_of_cond 8 (hf.rd5 H enc) (by kernel_rfl) (fun k hk => by cases hk; kernel_rfl) (by kernel_rfl) (hf.laid _))) ?_
 intro W base args ds gs before hval hW _ hc _ hL hsh _
 exact contract H enc W base args ds gs before hval hW (hc _ rfl) (gt_of hsh hL)
set_option maxRecDepth 100000 in
theorem saidUpto : Rows.DryAllUptoSaid :=
 OpenClaim.holds_of_cond 5 Tryz.f5 rfl rfl rfl rfl rfl rfl rfl ⟨rfl, rfl, rfl, rfl, rfl⟩ rfl rfl rfl rfl rfl (by kernel_rfl) Tryz.func5 (by kernel_rfl)
  (of_decide_eq_true (by kernel_rfl)) (by unfold Func.isWrapper; first | (rw [if_pos (by decide +kernel)]; kernel_rfl) | (rw [if_neg (by decide +kernel)]; exact ⟨rfl, rfl⟩))
  (fun os started H enc _ F => by rw [OpenClaim.pre_eq_preRow]; exact liftedUpto os started H enc F)
theorem plain (f : FuncId) (fn : Func) (hf : Tryz.pinned.checked.prog.funcNamed Rows.dryAllUptoRow.func = some f) (hfn : Tryz.pinned.checked.prog.funcs[f]? = some fn) :
  false = Tryz.pinned.checked.prog.looks [] ∧ ∀ (j : Nat) t, fn.params[j]? = some t → Tryz.pinned.checked.prog.wantsStandIn t = false := by
 obtain rfl : f = 5 := Option.some.inj ((show Tryz.prog.funcNamed Rows.dryAllUptoRow.func = some 5 by kernel_rfl).symm.trans hf) |>.symm
 obtain rfl : fn = Tryz.f5 := (Option.some.inj (Tryz.func5.symm.trans hfn)).symm
 refine ⟨by kernel_rfl, fun j t ht => ?_⟩
 rw [Tryz.params5] at ht
 have h : t = 24 ∨ t = 25 := by simpa using Array.mem_of_getElem? ht
 rcases h with rfl | rfl
 ·exact (show Tryz.prog.wantsStandIn 24 = false by kernel_rfl)
 ·exact (show Tryz.prog.wantsStandIn 25 = false by kernel_rfl)
set_option maxRecDepth 100000 in
theorem cardUpto : Rows.DryAllUptoCardSaid :=
 Claim7.holds_tied_plain_at .later [] _ _ _ _ saidUpto (fun _ h => by cases h) (by kernel_rfl) (fun _ h => by cases h) dryAllUpto_row_tie rfl ⟨rfl, rfl⟩ (by kernel_rfl) rfl plain (by kernel_rfl)
end Go.Proofs.YtddddfankeepkaaGreatDoor.dryAll
