/-
  FieldStamped: the statement.
-/
import Derived.Test.YteaebdonnicbkaaStd1
import Derived.Test.YteaebdonnicbkaaStd2
import Derived.Test.YteaebdonnicbkaaStd3
import Derived.Test.YteaebdonnicbkaaStd4
import Derived.Test.YteaebdonnicbkaaOpn
import Derived.ChangeOld
import Derived.Below
namespace Go.Proofs.Yteaebdonnicbkaa.fieldStamped
open Go.ChangeShapes Go.WideShapes Go.ChangeAt Go.RowKit

theorem own : ownKnob Try.prog.godebug = none := by kernel_rfl
theorem laidOut : laidOutB Try.prog = true := by kernel_rfl

theorem walk (x0 x1 : Int) (a : Option Addr) (n c : Nat) (zs : List Int) (a5 : Option Addr) (n5 c5 : Nat) (zs5 : List Int) (x4 : Int) (ch : Nat) (w : World) (hch : ch < 4294967296)
    (hn : n ≤ 140737488351232) (hnil : a = none → c = 0) (hcap : n ≤ c) (hR : Rd w.heap.size w a n zs) (hn5 : n5 ≤ 140737488351232) (hnil5 : a5 = none → c5 = 0) (hR5 : Rd w.heap.size w a5 n5 zs5) :
    Calls Try.prog 3 #[.int .i64 x0, .int .i64 x1, .slice a n c, .slice a5 n5 c5, .int .i64 x4, .int .u32 (ch : Int)] w fun e w' => e = .returned (.bool true) ∧ Below w.heap.size w w' := by
  by_cases h1 : n ≤ 497
  · by_cases h2 : okU zs5
    · exact stamped01 x0 x1 a n c zs a5 n5 c5 zs5 x4 ch w hch hn hnil hcap hR hn5 hnil5 hR5 h1 h2
    · exact stamped00 x0 x1 a n c zs a5 n5 c5 zs5 x4 ch w hch hn hnil hcap hR hn5 hnil5 hR5 h1 h2
  · by_cases h2 : okU zs5
    · exact stamped11 x0 x1 a n c zs a5 n5 c5 zs5 x4 ch w hch hn hnil hcap hR hn5 hnil5 hR5 (by omega) h2
    · exact stamped10 x0 x1 a n c zs a5 n5 c5 zs5 x4 ch w hch hn hnil hcap hR hn5 hnil5 hR5 (by omega) h2

theorem long {H : Type} {d : DataW H} {len cap : Nat} (hl : len ≤ cap) (hd : (d = .nil ∧ cap = 0) ∨ ∃ all : List Int, d = .slice (lits .u8 (all.take len)) (lits .u8 (all.drop len)) ∧ all.length = cap)
    {ts : List TypeId} {ds : List (DataW H)} (hsz : (DataW.weightsEach Try.prog ts ds).all (· ≤ reachBytes) = true) (j : Nat) (ht : ts[j]? = some 22) (hj : ds[j]? = some d) : len ≤ 140737488351232 := by
  rcases hd with ⟨_, h⟩ | ⟨all, rfl, h⟩
  · omega
  · have h2 := sized_slice hsz (j := j) (t := 22) (e := 5) ht hj Try.underlying22
    rw [bytes5] at h2
    simp only [lits, List.length_map, List.length_take, List.length_drop, reachBytes] at h2
    omega

set_option maxRecDepth 100000 in
theorem lifted (os : Os) (started : os.Started) (H : Type) (enc : TypeId × Value → H) :
    ReturnsInHanded {} Try.checked os 3 .any (Rows.fieldStampedSpec.pre6 enc Try.prog Try.f3 Rows.fieldStampedRow.domain false) (Rows.fieldStampedSpec.post enc Try.prog Try.f3 false true false false) := by
  refine returnsInHanded_of_change_sized (C := Try.checked) own started (by kernel_rfl) Try.func3
    (ChangeSpec.witness6 (enc := enc) (C := Try.checked) false ⟨#[], #[.int .i64 0, .int .i64 0, .slice none 0 0, .slice none 0 0, .int .i64 0, .int .u32 0], []⟩ 8 (by kernel_rfl) (by kernel_rfl) (by kernel_rfl) (by kernel_rfl)) ?_
  intro W base args ds gs before hval0 hW hcnd hsz0 _
  have hval : ∀ (j : Nat) t v, Try.f3.params[j]? = some t → args[j]? = some v → Value.okWide Try.prog W .any base t v := hval0
  have hsz : (DataW.weightsEach Try.prog (Try.f3.params.toList ++ Rows.fieldStampedSpec.plain.varTypes Try.prog) (ds ++ gs)).all (· ≤ reachBytes) = true := hsz0
  have hW' := hW
  obtain ⟨p, q, hA0, hV, rfl, hfz, hnd⟩ := hW
  have hA : DataW.TrodAll enc Try.prog W 0 (fun _ => true) true Try.f3.params.toList args.toList ds p := hA0
  rw [Try.params3] at hA hval hsz
  obtain ⟨v0, vs0, d0, ds0, p0, q0, hargs, rfl, rfl, h0, r0⟩ := trodAll_cons hA
  obtain ⟨v1, vs1, d1, ds1, p1, q1, rfl, rfl, rfl, h1, r1⟩ := trodAll_cons r0
  obtain ⟨v2, vs2, d2, ds2, p2, q2, rfl, rfl, rfl, h2, r2⟩ := trodAll_cons r1
  obtain ⟨v3, vs3, d3, ds3, p3, q3, rfl, rfl, rfl, h3, r3⟩ := trodAll_cons r2
  obtain ⟨v4, vs4, d4, ds4, p4, q4, rfl, rfl, rfl, h4, r4⟩ := trodAll_cons r3
  obtain ⟨v5, vs5, d5, ds5, p5, q5, rfl, rfl, rfl, h5, r5⟩ := trodAll_cons r4
  obtain ⟨rfl, rfl, rfl⟩ := trodAll_nil r5
  obtain rfl : args = #[v0, v1, v2, v3, v4, v5] := by cases args; simp_all
  obtain ⟨rfl, rfl⟩ := trodVars_none hV
  obtain ⟨x0, rfl, rfl, rfl, w0⟩ := open_int Try.underlying3 (hval 0 3 v0 rfl rfl) h0
  obtain ⟨x1, rfl, rfl, rfl, w1⟩ := open_int Try.underlying3 (hval 1 3 v1 rfl rfl) h1
  obtain ⟨a2, len2, cap2, rfl⟩ := okWide_slice Try.underlying22 (hval 2 22 v2 rfl rfl)
  obtain ⟨a3, len3, cap3, rfl⟩ := okWide_slice Try.underlying22 (hval 3 22 v3 rfl rfl)
  obtain ⟨x4, rfl, rfl, rfl, w4⟩ := open_int Try.underlying3 (hval 4 3 v4 rfl rfl) h4
  obtain ⟨x5, rfl, rfl, rfl, w5⟩ := open_int Try.underlying23 (hval 5 23 v5 rfl rfl) h5
  have lt2 : ∀ x ∈ p2, x.block < W.heap.size := by obtain ⟨m, hm⟩ := h2; exact DataW.trod_lt m _ _ _ hm
  have lt3 : ∀ x ∈ p3, x.block < W.heap.size := by obtain ⟨m, hm⟩ := h3; exact DataW.trod_lt m _ _ _ hm
  obtain ⟨zs2, nil2, le2, R2, dd2⟩ := open_b h2
  obtain ⟨zs3, nil3, le3, R3, dd3⟩ := open_b h3
  have n2 := long le2 dd2 hsz 2 rfl rfl
  have n3 := long le3 dd3 hsz 3 rfl rfl
  have b5 := bounds_u32 w5
  obtain ⟨ch, rfl⟩ := Int.eq_ofNat_of_zero_le b5.1
  clear hA0 hval0
  refine (walk x0 x1 a2 len2 cap2 zs2 a3 len3 cap3 zs3 x4 ch W (by omega) n2 nil2 le2 R2 n3 nil3 R3).mono fun e W' ⟨he, bel⟩ => ?_
  subst he
  exact ⟨_, rfl, _, _, _, [], _, [], hW', trodAll_mk1 (shut_bool Try.underlying4 _),
    (trodAll_cons_mk (shut_int Try.underlying3 w0) (trodAll_cons_mk (shut_int Try.underlying3 w1) (trodAll_cons_mk (Below.trod laidOut (by kernel_rfl) (of_decide_eq_true (by kernel_rfl)) h2 bel lt2) (trodAll_cons_mk (Below.trod laidOut (by kernel_rfl) (of_decide_eq_true (by kernel_rfl)) h3 bel lt3)
      (trodAll_cons_mk (shut_int Try.underlying3 w4) (trodAll_cons_mk (shut_int Try.underlying23 w5) trodAll_mk0)))))), rfl, bel.frame _, fun h => by cases h⟩

theorem proved : Rows.FieldStampedSaid :=
  OpenClaim.holds_of_wide 3 Try.f3 rfl rfl rfl rfl rfl rfl rfl ⟨rfl, rfl, rfl, rfl, rfl⟩ rfl rfl rfl rfl rfl (by kernel_rfl) Try.func3 (by kernel_rfl)
    (of_decide_eq_true (by kernel_rfl)) (by unfold Func.isWrapper; first | (rw [if_pos (by decide +kernel)]; kernel_rfl) | (rw [if_neg (by decide +kernel)]; exact ⟨rfl, rfl⟩))
    (fun os started H enc _ => lifted os started H enc)
end Go.Proofs.Yteaebdonnicbkaa.fieldStamped
