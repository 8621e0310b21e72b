import Derived.Test.YtldlejpacgphmaaGreatG44
import Derived.Lib.SmallJoins
import Derived.JoinedCond
import Derived.ChangeOld
import Derived.Below
namespace Go.Proofs.YtldlejpacgphmaaGreat.journalAnew
open Go.ChangeShapes Go.WideShapes Go.ChangeAt Go.RowKit
theorem own : ownKnob Tryz.prog.godebug = none := by kernel_rfl
theorem laidOut : laidOutB Tryz.prog = true := by kernel_rfl
set_option maxRecDepth 100000 in
theorem contract (H : Type) (enc : TypeId × Value → H) (W : World) (base : Nat) (args : Array Value) (ds gs : List (DataW H)) (before : List MemPlace)
  (hval : ∀ (j : Nat) t v, Tryz.f8.params[j]? = some t → args[j]? = some v → Value.okWide Tryz.prog W .any base t v)
  (hW : DataW.Whole enc Tryz.prog Tryz.f8.params.toList Rows.journalAnewSpec.vars false W args.toList ds gs before) (hk : Rows.uptoSmall H (ds ++ gs) = true) :
  Calls Tryz.prog 8 args W fun e W' => ∃ v, e = .returned v ∧ Rows.journalAnewSpec.post enc Tryz.prog Tryz.f8 false true false false W args v W' := by
 have hW' := hW
 obtain ⟨p, q, hA0, hV, rfl, hfz, hnd⟩ := hW
 have hA : DataW.TrodAll enc Tryz.prog W 0 (fun _ => true) true Tryz.f8.params.toList args.toList ds p := hA0
 rw [Tryz.params8] at hA hval
 obtain ⟨v0, vs0, d0, ds0, p0, q0, hargs0, rfl, rfl, h0, r0⟩ := trodAll_cons hA
 obtain ⟨v1, vs1, d1, ds1, p1, q1, hargs1, rfl, rfl, h1, r1⟩ := trodAll_cons r0
 obtain ⟨v2, vs2, d2, ds2, p2, q2, hargs2, rfl, rfl, h2, r2⟩ := trodAll_cons r1
 obtain ⟨v3, vs3, d3, ds3, p3, q3, hargs3, rfl, rfl, h3, r3⟩ := trodAll_cons r2
 obtain ⟨v4, vs4, d4, ds4, p4, q4, hargs4, rfl, rfl, h4, r4⟩ := trodAll_cons r3
 obtain ⟨v5, vs5, d5, ds5, p5, q5, hargs5, rfl, rfl, h5, r5⟩ := trodAll_cons r4
 obtain ⟨rfl, rfl, rfl⟩ := trodAll_nil r5
 obtain rfl : args = #[v0, v1, v2, v3, v4, v5] := by cases args; simp_all
 obtain ⟨rfl, rfl⟩ := trodVars_none hV
 have lt0 : ∀ x ∈ p0, x.block < W.heap.size := by obtain ⟨m, hm⟩ := h0; exact DataW.trod_lt m _ _ _ hm
 have lt1 : ∀ x ∈ p1, x.block < W.heap.size := by obtain ⟨m, hm⟩ := h1; exact DataW.trod_lt m _ _ _ hm
 have lt2 : ∀ x ∈ p2, x.block < W.heap.size := by obtain ⟨m, hm⟩ := h2; exact DataW.trod_lt m _ _ _ hm
 have lt3 : ∀ x ∈ p3, x.block < W.heap.size := by obtain ⟨m, hm⟩ := h3; exact DataW.trod_lt m _ _ _ hm
 have lt4 : ∀ x ∈ p4, x.block < W.heap.size := by obtain ⟨m, hm⟩ := h4; exact DataW.trod_lt m _ _ _ hm
 have lt5 : ∀ x ∈ p5, x.block < W.heap.size := by obtain ⟨m, hm⟩ := h5; exact DataW.trod_lt m _ _ _ hm
 simp only [List.append_nil] at hk
 have hb := bulk_bound hk
 have m0 := bulk_mem (d := d0) (l := [d0, d1, d2, d3, d4, d5]) (by simp)
 have m1 := bulk_mem (d := d1) (l := [d0, d1, d2, d3, d4, d5]) (by simp)
 have m3 := bulk_mem (d := d3) (l := [d0, d1, d2, d3, d4, d5]) (by simp)
 have h0' := h0
 obtain ⟨c0, c1, c2, c3, y0, y1, y2, y3, n, rfl, hd0, _, t0, t1, t2, t3⟩ := Go.Joins.open_agg4 Tryz.underlying24 (by kernel_rfl) (by kernel_rfl) (hval 0 24 v0 rfl rfl) h0'
 obtain ⟨ha, hn, hcp, Hs, rfl, hR, hn1, hnil⟩ := open_bc t0
 obtain ⟨n1, e1, _, _⟩ := DataW.trod_int Tryz.underlying3 t1
 obtain ⟨n2, e2, _, _⟩ := DataW.trod_int Tryz.underlying3 t2
 obtain ⟨n3, e3, _, _⟩ := DataW.trod_int Tryz.underlying3 t3
 simp only [List.cons.injEq, and_true] at e1 e2 e3
 subst e1 e2 e3
 obtain ⟨a1, len1, cap1, rfl⟩ := okWide_slice Tryz.underlying25 (hval 1 25 v1 rfl rfl)
 have h1k := h1
 obtain ⟨fuel1, h1'⟩ := h1
 obtain ⟨a1', c1', As, he1, hRA, hpl, hpd⟩ := open_acts h1'
 obtain ⟨rfl, rfl, rfl⟩ : a1 = a1' ∧ len1 = As.length ∧ cap1 = c1' := by injection he1 with x y z; exact ⟨x, y, z⟩
 have h2k := h2
 have h4k := h4
 have h5k := h5
 obtain ⟨x2, rfl, rfl, rfl, _⟩ := open_int Tryz.underlying3 (hval 2 3 v2 rfl rfl) h2
 obtain ⟨a3, len3, cap3, rfl⟩ := okWide_slice Tryz.underlying25 (hval 3 25 v3 rfl rfl)
 have h3k := h3
 obtain ⟨fuel3, h3'⟩ := h3
 obtain ⟨a3', c3', Bs, he3, hRB, hql, hqd⟩ := open_acts h3'
 obtain ⟨rfl, rfl, rfl⟩ : a3 = a3' ∧ len3 = Bs.length ∧ cap3 = c3' := by injection he3 with x y z; exact ⟨x, y, z⟩
 obtain ⟨x4, rfl, rfl, rfl, w4⟩ := open_int Tryz.underlying3 (hval 4 3 v4 rfl rfl) h4
 obtain ⟨x5, rfl, rfl, rfl, _⟩ := open_int Tryz.underlying31 (hval 5 31 v5 rfl rfl) h5
 have hx4 : x4 ≤ 9223372036854775807 := by
  have e : (Lit.int .i64 x4).wf = true := w4
  simp only [Lit.wf, Bool.and_eq_true, decide_eq_true_eq] at e
  exact e.2
 have hql' : Bs.length ≤ Rows.uptoBulk d3 := hql
 have hqd' : ∀ q ∈ Bs, RdP (fun _ => False) W q.a0 q.ps ∧ q.ps.length ≤ Rows.uptoBulk d3 ∧ (∀ p ∈ q.ps, p.data.length ≤ Rows.uptoBulk d3 ∧ (p.ad = none → p.cap = 0)) := hqd
 have hdb : Rows.uptoBulk y0.1 ≤ Rows.uptoBulk d0 := by
  rw [hd0]
  simp only [Rows.uptoBulk, Rows.uptoBulkAll]
  omega
 have hpl' : As.length ≤ Rows.uptoBulk d1 := hpl
 have hpd' : ∀ q ∈ As, RdP (fun _ => False) W q.a0 q.ps ∧ q.ps.length ≤ Rows.uptoBulk d1 ∧ (∀ p ∈ q.ps, p.data.length ≤ Rows.uptoBulk d1 ∧ (p.ad = none → p.cap = 0)) := hpd
 clear hA0
 refine (anew_law ha hn hcp Hs n1 n2 n3 a1 cap1 As x2 a3 cap3 Bs x4 x5 W hR (by omega) hnil hRA (by omega) (fun q hq => ⟨(hpd' q hq).1, by have := (hpd' q hq).2.1; omega, fun p hp => ⟨by have := ((hpd' q hq).2.2 p hp).1; omega, ((hpd' q hq).2.2 p hp).2⟩⟩) hRB (by omega) (fun q hq => ⟨(hqd' q hq).1, by have := (hqd' q hq).2.1; omega, fun p hp => ⟨by have := ((hqd' q hq).2.2 p hp).1; omega, ((hqd' q hq).2.2 p hp).2⟩⟩) hx4).mono fun e W' ⟨he, bel⟩ => ?_
 subst he
 exact ⟨_, rfl, _, _, _, [], _, [], hW', trodAll_mk1 (shut_bool Tryz.underlying4 _),
  (trodAll_cons_mk (Below.trod laidOut (by kernel_rfl) (of_decide_eq_true (by kernel_rfl)) h0 bel lt0) (trodAll_cons_mk (Below.trod laidOut (by kernel_rfl) (of_decide_eq_true (by kernel_rfl)) h1k bel lt1) (trodAll_cons_mk (Below.trod laidOut (by kernel_rfl) (of_decide_eq_true (by kernel_rfl)) h2k bel lt2) (trodAll_cons_mk (Below.trod laidOut (by kernel_rfl) (of_decide_eq_true (by kernel_rfl)) h3k bel lt3) (trodAll_cons_mk (Below.trod laidOut (by kernel_rfl) (of_decide_eq_true (by kernel_rfl)) h4k bel lt4) (trodAll_cons_mk (Below.trod laidOut (by kernel_rfl) (of_decide_eq_true (by kernel_rfl)) h5k bel lt5) trodAll_mk0)))))), rfl, bel.frame _, fun h => by cases h⟩
set_option maxRecDepth 100000 in
theorem lifted (os : Os) (started : os.Started) (H : Type) (enc : TypeId × Value → H) (F : Stop.Interp) :
  ReturnsInHanded {} Tryz.checked os 8 .any ((Rows.OpenSpec.upto Rows.journalAnewSpec).pre6 enc Tryz.prog Tryz.f8 Rows.journalAnewUptoRow.domain false) (((Rows.OpenSpec.upto Rows.journalAnewSpec).at F).post enc Tryz.prog Tryz.f8 false true false false) := by
 refine returnsInHanded_of_cond (C := Tryz.checked) (s := Rows.OpenSpec.upto Rows.journalAnewSpec) (k := Rows.uptoSmall) rfl own started (by kernel_rfl) Tryz.func8
  (OpenSpec.witness (enc := enc) (C := Tryz.checked) (s := Rows.OpenSpec.upto Rows.journalAnewSpec) (k := Rows.uptoSmall) rfl false ⟨#[], #[.agg #[.slice none 0 0, .int .i64 0, .int .i64 0, .int .i64 0], .slice none 0 0, .int .i64 0, .slice none 0 0, .int .i64 0, .int .u64 0], []⟩ 8 (by kernel_rfl) (by kernel_rfl) (by kernel_rfl)
   (x := ([.agg [.nil, .lit (.int .i64 0), .lit (.int .i64 0), .lit (.int .i64 0)], .nil, .lit (.int .i64 0), .nil, .lit (.int .i64 0), .lit (.int .u64 0)], [], [])) (by kernel_rfl) rfl (by kernel_rfl)) ?_
 intro W base args ds gs before hval hW _ hk _
 exact contract H enc W base args ds gs before hval hW hk
theorem proved : Rows.JournalAnewUptoSaid :=
 OpenClaim.holds_of_cond 8 Tryz.f8 rfl rfl rfl rfl rfl rfl rfl ⟨rfl, rfl, rfl, rfl, rfl⟩ rfl rfl rfl rfl rfl (by kernel_rfl) Tryz.func8 (by kernel_rfl)
  (of_decide_eq_true (by kernel_rfl)) (by unfold Func.isWrapper; first | (rw [if_pos (by decide +kernel)]; kernel_rfl) | (rw [if_neg (by decide +kernel)]; exact ⟨rfl, rfl⟩))
  (fun os started H enc _ F => lifted os started H enc F)
end Go.Proofs.YtldlejpacgphmaaGreat.journalAnew
