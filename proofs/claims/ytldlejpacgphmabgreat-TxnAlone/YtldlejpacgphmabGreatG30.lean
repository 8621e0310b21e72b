import Derived.Test.YtldlejpacgphmabGreatG29
import Derived.Lib.SmallJoins
import Derived.JoinedCond
import Derived.ChangeOld
import Derived.Below
namespace Go.Proofs.YtldlejpacgphmabGreat.txnAlone
open Go.ChangeShapes Go.WideShapes Go.ChangeAt Go.RowKit
theorem open_who {H : Type} {enc : TypeId × Value → H} {W : World} {v : Value} {fuel : Nat} {x : DataW H × List MemPlace} (hf : DataW.trod enc Tryz.prog W 0 (fun _ => true) true fuel 26 [v] = some x) :
  ∃ a c ys, v = .slice a ys.length c ∧ IntL (fun k => W.heap.size ≤ k) W a ys ∧ ys.length ≤ Rows.uptoBulk x.1 := by
 rcases open_ints Tryz.underlying26 Tryz.underlying3 (by kernel_rfl) hf with ⟨hcs, hx⟩ | ⟨x', l, c, zs, hcs, hp, hl, hm, hz, hx, hcell, hwz⟩
 ·simp at hcs
  subst hcs
  exact ⟨none, 0, [], rfl, fun i v hv => by simp at hv, by simp⟩
 ·simp at hcs
  subst hcs
  have hz' : zs.length = c := by simpa using hz
  have hlt : (zs.take l).length = l := by rw [List.length_take]; omega
  refine ⟨some x', c, zs.take l, by rw [hlt], ?_, ?_⟩
  ·intro t y hy
   have htl : t < l := by have := (List.getElem?_eq_some_iff.1 hy).1; omega
   obtain ⟨b, off, rfl⟩ := spot_none (hcell 0 (by omega))
   have h1 := hcell t (by omega)
   rw [add_plain] at h1
   have hb : b < W.heap.size := World.block_lt_of_cell? W ⟨b, off + t, none⟩ (by simpa using h1)
   rw [List.getElem?_take_of_lt htl] at hy
   have : zs.getD t 0 = y := by rw [List.getD_eq_getElem?_getD, hy]; rfl
   exact ⟨b, off, rfl, hb, by omega, by rw [h1, this]⟩
  ·rw [hlt, hx]
   have := bulk_slice (H := H) (lits .i64 (zs.take l)) (lits .i64 (zs.drop l))
   simp only [lits, List.length_map, List.length_take] at this
   simp only [lits]
   omega
theorem own : ownKnob Tryz.prog.godebug = none := by kernel_rfl
theorem laidOut : laidOutB Tryz.prog = true := by kernel_rfl
set_option maxRecDepth 100000 in
theorem contract (H : Type) (enc : TypeId × Value → H) (W : World) (base : Nat) (args : Array Value) (ds gs : List (DataW H)) (before : List MemPlace)
  (hval : ∀ (j : Nat) t v, Tryz.f4.params[j]? = some t → args[j]? = some v → Value.okWide Tryz.prog W .any base t v)
  (hW : DataW.Whole enc Tryz.prog Tryz.f4.params.toList Rows.txnAloneSpec.vars false W args.toList ds gs before) (hk : Rows.uptoSmall H (ds ++ gs) = true) :
  Calls Tryz.prog 4 args W fun e W' => ∃ v, e = .returned v ∧ Rows.txnAloneSpec.post enc Tryz.prog Tryz.f4 false true false false W args v W' := by
 have hW' := hW
 obtain ⟨p, q, hA0, hV, rfl, hfz, hnd⟩ := hW
 have hA : DataW.TrodAll enc Tryz.prog W 0 (fun _ => true) true Tryz.f4.params.toList args.toList ds p := hA0
 rw [Tryz.params4] at hA hval
 obtain ⟨v0, vs0, d0, ds0, p0, q0, hargs0, rfl, rfl, h0, r0⟩ := trodAll_cons hA
 obtain ⟨v1, vs1, d1, ds1, p1, q1, hargs1, rfl, rfl, h1, r1⟩ := trodAll_cons r0
 obtain ⟨v2, vs2, d2, ds2, p2, q2, hargs2, rfl, rfl, h2, r2⟩ := trodAll_cons r1
 obtain ⟨rfl, rfl, rfl⟩ := trodAll_nil r2
 obtain rfl : args = #[v0, v1, v2] := by cases args; simp_all
 obtain ⟨rfl, rfl⟩ := trodVars_none hV
 have lt0 : ∀ x ∈ p0, x.block < W.heap.size := by obtain ⟨m, hm⟩ := h0; exact DataW.trod_lt m _ _ _ hm
 have lt1 : ∀ x ∈ p1, x.block < W.heap.size := by obtain ⟨m, hm⟩ := h1; exact DataW.trod_lt m _ _ _ hm
 have lt2 : ∀ x ∈ p2, x.block < W.heap.size := by obtain ⟨m, hm⟩ := h2; exact DataW.trod_lt m _ _ _ hm
 simp only [List.append_nil] at hk
 have hb := bulk_bound hk
 have m0 := bulk_mem (d := d0) (l := [d0, d1, d2]) (by simp)
 have m1 := bulk_mem (d := d1) (l := [d0, d1, d2]) (by simp)
 have m2 := bulk_mem (d := d2) (l := [d0, d1, d2]) (by simp)
 obtain ⟨a0, len0, cap0, rfl⟩ := okWide_slice Tryz.underlying26 (hval 0 26 v0 rfl rfl)
 have h0k := h0
 obtain ⟨fuel0, h0'⟩ := h0
 obtain ⟨ya0, yc0, P0, he0, hR0, hyl0⟩ := open_who h0'
 obtain ⟨rfl, rfl, rfl⟩ : a0 = ya0 ∧ len0 = P0.length ∧ cap0 = yc0 := by injection he0 with x y z; exact ⟨x, y, z⟩
 have hyl0' : P0.length ≤ Rows.uptoBulk d0 := hyl0
 obtain ⟨a1, len1, cap1, rfl⟩ := okWide_slice Tryz.underlying26 (hval 1 26 v1 rfl rfl)
 have h1k := h1
 obtain ⟨fuel1, h1'⟩ := h1
 obtain ⟨ya1, yc1, P1, he1, hR1, hyl1⟩ := open_who h1'
 obtain ⟨rfl, rfl, rfl⟩ : a1 = ya1 ∧ len1 = P1.length ∧ cap1 = yc1 := by injection he1 with x y z; exact ⟨x, y, z⟩
 have hyl1' : P1.length ≤ Rows.uptoBulk d1 := hyl1
 obtain ⟨a2, len2, cap2, rfl⟩ := okWide_slice Tryz.underlying26 (hval 2 26 v2 rfl rfl)
 have h2k := h2
 obtain ⟨fuel2, h2'⟩ := h2
 obtain ⟨ya2, yc2, P2, he2, hR2, hyl2⟩ := open_who h2'
 obtain ⟨rfl, rfl, rfl⟩ : a2 = ya2 ∧ len2 = P2.length ∧ cap2 = yc2 := by injection he2 with x y z; exact ⟨x, y, z⟩
 have hyl2' : P2.length ≤ Rows.uptoBulk d2 := hyl2
 clear hA0
 refine (alone_law a0 a1 a2 cap0 cap1 cap2 P0 P1 P2 W hR0 hR1 hR2 (by omega) (by omega) (by omega)).mono fun e W' ⟨he, bel⟩ => ?_
 subst he
 exact ⟨_, rfl, _, _, _, [], _, [], hW', trodAll_mk1 (shut_bool Tryz.underlying4 _),
  (trodAll_cons_mk (Below.trod laidOut (by kernel_rfl) (of_decide_eq_true (by kernel_rfl)) h0k bel lt0) (trodAll_cons_mk (Below.trod laidOut (by kernel_rfl) (of_decide_eq_true (by kernel_rfl)) h1k bel lt1) (trodAll_cons_mk (Below.trod laidOut (by kernel_rfl) (of_decide_eq_true (by kernel_rfl)) h2k bel lt2) trodAll_mk0))), rfl, bel.frame _, fun h => by cases h⟩
set_option maxRecDepth 100000 in
theorem lifted (os : Os) (started : os.Started) (H : Type) (enc : TypeId × Value → H) (F : Stop.Interp) :
  ReturnsInHanded {} Tryz.checked os 4 .any ((Rows.OpenSpec.upto Rows.txnAloneSpec).pre6 enc Tryz.prog Tryz.f4 Rows.txnAloneUptoRow.domain false) (((Rows.OpenSpec.upto Rows.txnAloneSpec).at F).post enc Tryz.prog Tryz.f4 false true false false) := by
 refine returnsInHanded_of_cond (C := Tryz.checked) (s := Rows.OpenSpec.upto Rows.txnAloneSpec) (k := Rows.uptoSmall) rfl own started (by kernel_rfl) Tryz.func4
  (OpenSpec.witness (enc := enc) (C := Tryz.checked) (s := Rows.OpenSpec.upto Rows.txnAloneSpec) (k := Rows.uptoSmall) rfl false ⟨#[], #[.slice none 0 0, .slice none 0 0, .slice none 0 0], []⟩ 8 (by kernel_rfl) (by kernel_rfl) (by kernel_rfl)
   (x := ([.nil, .nil, .nil], [], [])) (by kernel_rfl) rfl (by kernel_rfl)) ?_
 intro W base args ds gs before hval hW _ hk _
 exact contract H enc W base args ds gs before hval hW hk
theorem proved : Rows.TxnAloneUptoSaid :=
 OpenClaim.holds_of_cond 4 Tryz.f4 rfl rfl rfl rfl rfl rfl rfl ⟨rfl, rfl, rfl, rfl, rfl⟩ rfl rfl rfl rfl rfl (by kernel_rfl) Tryz.func4 (by kernel_rfl)
  (of_decide_eq_true (by kernel_rfl)) (by unfold Func.isWrapper; first | (rw [if_pos (by decide +kernel)]; kernel_rfl) | (rw [if_neg (by decide +kernel)]; exact ⟨rfl, rfl⟩))
  (fun os started H enc _ F => lifted os started H enc F)
end Go.Proofs.YtldlejpacgphmabGreat.txnAlone
