import Derived.Test.YtddddfankeepkaaGreatDoorA23
import Derived.Test.YtddddfankeepkaaGreatDoorA25
import Derived.Test.YtddddfankeepkaaGreatDoorA26
import Derived.Test.YtddddfankeepkaaGreatDoorA27
import Derived.JoinedCond
import Derived.ChangeOld
import Derived.Below
/-
  DryThrough: the statement, and its card.
-/
namespace Go.Proofs.YtddddfankeepkaaGreatDoor.dryThrough
open Go.ChangeShapes Go.WideShapes Go.ChangeAt Go.RowKit Go.Proofs.YtddddfankeepkaaGreatDoor.lw

theorem dryThrough_law (x : VW) (a : Option Addr) (c0 : Nat) (la bs : List PO) (z : Option Addr) (zc : Nat) (y : Option Addr) (yc : Nat) (k : Int) (w : World) (hl1 : la.length ≤ 2097152) (hl2 : bs.length ≤ 2097152) (hx : szV 16777216 16777216 x.vs) (hz : ∀ v ∈ x.vs, v.nm.size ≤ 16777216) (hR : RdV w.heap.size w a x.vs) (hA : RdO w.heap.size w z la) (hB : RdO w.heap.size w y bs) (hG : GT w) :
    Calls Tryz.prog 3 #[viewA x a c0, .slice z la.length zc, .slice y bs.length yc, .int .i64 k] w fun e w' => BoQ w true e w' := by
  cases hM : mayB x
  · exact through_N x a c0 la bs _ _ z zc y yc k w rfl rfl hl1 hl2 hx hz hR hA hB hG hM
  · by_cases he : (allP x (la.map tow) 0).2.2 = 0
    · by_cases hf : (allP (allP x (la.map tow) 0).1 (bs.map tow) 0).2.2 = 0
      · exact through_S x a c0 la bs _ _ z zc y yc k w rfl rfl hl1 hl2 hx hz hR hA hB hG hM he hf
      · exact through_Z x a c0 la bs _ _ z zc y yc k w rfl rfl hl1 hl2 hx hz hR hA hB hG hM he hf
    · exact through_E x a c0 la bs _ _ z zc y yc k w rfl rfl hl1 hl2 hx hz hR hA hB hG hM he

set_option maxRecDepth 100000 in
theorem contract (H : Type) (enc : TypeId × Value → H) (W : World) (base : Nat) (args : Array Value) (ds gs : List (DataW H)) (before : List MemPlace)
    (hval : ∀ (j : Nat) t v, Tryz.f3.params[j]? = some t → args[j]? = some v → Value.okWide Tryz.prog W .any base t v)
    (hW : DataW.Whole enc Tryz.prog Tryz.f3.params.toList Rows.dryThroughSpec.vars false W args.toList ds gs before) (hk : Rows.uptoSmall H (ds ++ gs) = true) (hG : GT W) :
    Calls Tryz.prog 3 args W fun e W' => ∃ v, e = .returned v ∧ Rows.dryThroughSpec.post enc Tryz.prog Tryz.f3 false true false false W args v W' := by
  have hW' := hW
  obtain ⟨p, q, hA0, hV, rfl, hfz, hnd⟩ := hW
  have hA : DataW.TrodAll enc Tryz.prog W 0 (fun _ => true) true Tryz.f3.params.toList args.toList ds p := hA0
  rw [Tryz.params3] at hA hval
  obtain ⟨v0, vs0, d0, ds0, p0, q0, hargs, rfl, rfl, h0, r0⟩ := trodAll_cons hA
  obtain ⟨v1, vs1, d1, ds1, p1, q1, rfl, rfl, rfl, h1, r1⟩ := trodAll_cons r0
  obtain ⟨v2, vs2, d2, ds2, p2, q2, rfl, rfl, rfl, h2, r2⟩ := trodAll_cons r1
  obtain ⟨v3, vs3, d3, ds3, p3, q3, rfl, rfl, rfl, h3, r3⟩ := trodAll_cons r2
  obtain ⟨rfl, rfl, rfl⟩ := trodAll_nil r3
  obtain rfl : args = #[v0, v1, v2, v3] := by cases args; simp_all
  obtain ⟨rfl, rfl⟩ := trodVars_none hV
  obtain ⟨cs0, rfl, hz0⟩ := okWide_struct Tryz.underlying24 (hval 0 24 v0 rfl rfl)
  obtain ⟨a1, len1, cap1, rfl⟩ := okWide_slice Tryz.underlying25 (hval 1 25 v1 rfl rfl)
  obtain ⟨a2, len2, cap2, rfl⟩ := okWide_slice Tryz.underlying25 (hval 2 25 v2 rfl rfl)
  obtain ⟨kz, rfl, _⟩ := okWide_int Tryz.underlying3 (hval 3 3 v3 rfl rfl)
  have k0 := h0
  have k1 := h1
  have k2 := h2
  have k3 := h3
  have lt0 : ∀ x ∈ p0, x.block < W.heap.size := by obtain ⟨m, hm⟩ := k0; exact DataW.trod_lt m _ _ _ hm
  have lt1 : ∀ x ∈ p1, x.block < W.heap.size := by obtain ⟨m, hm⟩ := k1; exact DataW.trod_lt m _ _ _ hm
  have lt2 : ∀ x ∈ p2, x.block < W.heap.size := by obtain ⟨m, hm⟩ := k2; exact DataW.trod_lt m _ _ _ hm
  have lt3 : ∀ x ∈ p3, x.block < W.heap.size := by obtain ⟨m, hm⟩ := k3; exact DataW.trod_lt m _ _ _ hm
  simp only [List.append_nil] at hk
  have hb : Rows.uptoBulkAll [d0, d1, d2, d3] ≤ 1048576 := bound hk
  simp only [Rows.uptoBulkAll] at hb
  obtain ⟨x, a, c, e0, hs0, hn0, hR0⟩ := open_view h0 (hz0.trans co24) (by omega)
  obtain ⟨la, e1, hO1, hb1⟩ := open_ops h1 (by omega)
  obtain ⟨bs, e2, hO2, hb2⟩ := open_ops h2 (by omega)
  clear hA0
  subst e1
  subst e2
  have HL := dryThrough_law x a c la bs a1 cap1 a2 cap2 kz W (by omega) (by omega) ⟨hs0.1, hs0.2⟩ hn0 hR0 hO1 hO2 hG
  rw [← e0] at HL
  refine HL.mono fun e W' ⟨he, bel⟩ => ?_
  subst he
  exact ⟨_, rfl, _, _, _, [], _, [], hW', trodAll_mk1 (shut_bool Tryz.underlying4 _), (trodAll_cons_mk (Below.trod laidOut (by kernel_rfl) (of_decide_eq_true (by kernel_rfl)) k0 bel lt0) (trodAll_cons_mk (Below.trod laidOut (by kernel_rfl) (of_decide_eq_true (by kernel_rfl)) k1 bel lt1) (trodAll_cons_mk (Below.trod laidOut (by kernel_rfl) (of_decide_eq_true (by kernel_rfl)) k2 bel lt2) (trodAll_cons_mk (Below.trod laidOut (by kernel_rfl) (of_decide_eq_true (by kernel_rfl)) k3 bel lt3) trodAll_mk0)))), rfl, bel.frame _, fun h => by cases h⟩

set_option maxRecDepth 100000 in
theorem liftedUpto (os : Os) (started : os.Started) (H : Type) (enc : TypeId × Value → H) (F : Stop.Interp) :
    ReturnsInHanded {} Tryz.checked os 3 .any ((Rows.OpenSpec.upto Rows.dryThroughSpec).preRow enc Tryz.prog Tryz.f3 Rows.dryThroughUptoRow.domain false Rows.dryThroughUptoRow.laid) (((Rows.OpenSpec.upto Rows.dryThroughSpec).at F).post enc Tryz.prog Tryz.f3 false true false false) := by
  obtain ⟨w0, ho, hf⟩ := fits os
  refine returnsInHanded_of_row (C := Tryz.checked) (s := Rows.OpenSpec.upto Rows.dryThroughSpec) ownK started (by kernel_rfl) Tryz.func3
    (witness_row_at (enc := enc) (C := Tryz.checked) false w0 lw.four ho (hf.vars _) (hf.rest _) hf.ok3
      (OpenSpec.preRow_of_cond 8 (hf.rd3 H enc) (by kernel_rfl) (fun k hk => by cases hk; kernel_rfl) (by kernel_rfl) (hf.laid _))) ?_
  intro W base args ds gs before hval hW _ hc _ hL hsh _
  exact contract H enc W base args ds gs before hval hW (hc _ rfl) (gt_of hsh hL)

set_option maxRecDepth 100000 in
theorem saidUpto : Rows.DryThroughUptoSaid :=
  OpenClaim.holds_of_cond 3 Tryz.f3 rfl rfl rfl rfl rfl rfl rfl ⟨rfl, rfl, rfl, rfl, rfl⟩ rfl rfl rfl rfl rfl (by kernel_rfl) Tryz.func3 (by kernel_rfl)
    (of_decide_eq_true (by kernel_rfl)) (by unfold Func.isWrapper; first | (rw [if_pos (by decide +kernel)]; kernel_rfl) | (rw [if_neg (by decide +kernel)]; exact ⟨rfl, rfl⟩))
    (fun os started H enc _ F => by rw [OpenClaim.pre_eq_preRow]; exact liftedUpto os started H enc F)

theorem plain (f : FuncId) (fn : Func) (hf : Tryz.pinned.checked.prog.funcNamed Rows.dryThroughUptoRow.func = some f) (hfn : Tryz.pinned.checked.prog.funcs[f]? = some fn) :
    false = Tryz.pinned.checked.prog.looks [] ∧ ∀ (j : Nat) t, fn.params[j]? = some t → Tryz.pinned.checked.prog.wantsStandIn t = false := by
  obtain rfl : f = 3 := Option.some.inj ((show Tryz.prog.funcNamed Rows.dryThroughUptoRow.func = some 3 by kernel_rfl).symm.trans hf) |>.symm
  obtain rfl : fn = Tryz.f3 := (Option.some.inj (Tryz.func3.symm.trans hfn)).symm
  refine ⟨by kernel_rfl, fun j t ht => ?_⟩
  rw [Tryz.params3] at ht
  have h : t = 24 ∨ t = 25 ∨ t = 3 := by simpa using Array.mem_of_getElem? ht
  rcases h with rfl | rfl | rfl
  · exact (show Tryz.prog.wantsStandIn 24 = false by kernel_rfl)
  · exact (show Tryz.prog.wantsStandIn 25 = false by kernel_rfl)
  · exact (show Tryz.prog.wantsStandIn 3 = false by kernel_rfl)

set_option maxRecDepth 100000 in
theorem cardUpto : Rows.DryThroughUptoCardSaid :=
  Claim7.holds_tied_plain_at .later [] _ _ _ _ saidUpto (fun _ h => by cases h) (by kernel_rfl) (fun _ h => by cases h) dryThroughUpto_row_tie rfl ⟨rfl, rfl⟩ (by kernel_rfl) rfl plain (by kernel_rfl)
end Go.Proofs.YtddddfankeepkaaGreatDoor.dryThrough
