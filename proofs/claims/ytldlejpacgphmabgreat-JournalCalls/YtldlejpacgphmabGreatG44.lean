import Derived.Test.YtldlejpacgphmabGreatG43
import Derived.Lib.SmallJoins
import Derived.JoinedCond
import Derived.ChangeOld
import Derived.Below
namespace Go.Proofs.YtldlejpacgphmabGreat.journalCalls
open Go.ChangeShapes Go.WideShapes Go.ChangeAt Go.RowKit
theorem acts_len {H : Type} {enc : TypeId × Value → H} {W : World} {a : Option Addr} {n c : Nat} {fuel : Nat} {x : DataW H × List MemPlace} (hf : DataW.trod enc Tryz.prog W 0 (fun _ => true) true fuel 25 [.slice a n c] = some x) : 4 * n ≤ Rows.uptoBulk x.1 := by
 rcases open_six Tryz.underlying25 Tryz.underlying38 (by kernel_rfl) rfl rfl rfl rfl rfl rfl (by kernel_rfl) (by kernel_rfl) (by kernel_rfl) (by kernel_rfl) (by kernel_rfl) (by kernel_rfl) hf with ⟨hcs, hx⟩ | ⟨x1, len, c', m, n', D, hcs, hl, hmm, hx, hall⟩
 ·simp at hcs
  obtain ⟨_, rfl, _⟩ := hcs
  omega
 ·simp at hcs
  obtain ⟨_, rfl, _⟩ := hcs
  rw [hx]
  have hm' : m = c' := by simpa using hmm
  have hb : ∀ d ∈ (List.range n).map D, 4 ≤ Rows.uptoBulk d := by
   intro d hd
   obtain ⟨i, hi, rfl⟩ := List.mem_map.1 hd
   have hi' := List.mem_range.1 hi
   obtain ⟨v0, v1, v2, v3, v4, v5, y0, y1, y2, y3, y4, y5, e0, e1, e2, e3, e4, e5, t0, t1, t2, t3, t4, t5, hD⟩ := hall i (by omega)
   rw [hD]
   have b0 := bulk_one y0.1
   have b1 := bulk_one y1.1
   have b2 := bulk_one y2.1
   have b3 := bulk_one y3.1
   simp only [Rows.uptoBulk, Rows.uptoBulkAll]
   omega
  have h2 := bulk_by hb
  simp only [List.length_map, List.length_range] at h2
  simp only [Rows.uptoBulk]
  omega
theorem open_who {H : Type} {enc : TypeId × Value → H} {W : World} {v : Value} {fuel : Nat} {x : DataW H × List MemPlace} (hf : DataW.trod enc Tryz.prog W 0 (fun _ => true) true fuel 26 [v] = some x) :
  ∃ a c ys, v = .slice a ys.length c ∧ RdWho W.heap.size W a ys ∧ ys.length ≤ Rows.uptoBulk x.1 := by
 rcases open_ints Tryz.underlying26 Tryz.underlying3 (by kernel_rfl) hf with ⟨hcs, hx⟩ | ⟨x', l, c, zs, hcs, hp, hl, hm, hz, hx, hcell, hwz⟩
 ·simp at hcs
  subst hcs
  exact ⟨none, 0, [], rfl, .inl rfl, by simp⟩
 ·simp at hcs
  subst hcs
  have hz' : zs.length = c := by simpa using hz
  have hlt : (zs.take l).length = l := by rw [List.length_take]; omega
  refine ⟨some x', c, zs.take l, by rw [hlt], ?_, ?_⟩
  ·by_cases h0 : l = 0
   ·subst h0; exact .inl rfl
   ·obtain ⟨b, off, rfl⟩ := spot_none (hcell 0 (by omega))
    refine .inr ⟨b, off, rfl, ?_, fun t y hy => ?_⟩
    ·have := hcell 0 (by omega)
     rw [add_plain] at this
     exact World.block_lt_of_cell? W ⟨b, off, none⟩ (by simpa using this)
    ·have htl : t < l := by have := (List.getElem?_eq_some_iff.1 hy).1; omega
     have h1 := hcell t (by omega)
     rw [add_plain] at h1
     rw [List.getElem?_take_of_lt htl] at hy
     have : zs.getD t 0 = y := by rw [List.getD_eq_getElem?_getD, hy]; rfl
     rw [h1, this]
  ·rw [hlt, hx]
   have := bulk_slice (H := H) (lits .i64 (zs.take l)) (lits .i64 (zs.drop l))
   simp only [lits, List.length_map, List.length_take] at this
   simp only [lits]
   omega
theorem own : ownKnob Tryz.prog.godebug = none := by kernel_rfl
theorem laidOut : laidOutB Tryz.prog = true := by kernel_rfl
set_option maxRecDepth 100000 in
theorem contract (H : Type) (enc : TypeId × Value → H) (W : World) (base : Nat) (args : Array Value) (ds gs : List (DataW H)) (before : List MemPlace)
  (hval : ∀ (j : Nat) t v, Tryz.f3.params[j]? = some t → args[j]? = some v → Value.okWide Tryz.prog W .any base t v)
  (hW : DataW.Whole enc Tryz.prog Tryz.f3.params.toList Rows.journalCallsSpec.vars false W args.toList ds gs before) (hk : Rows.uptoSmall H (ds ++ gs) = true) :
  Calls Tryz.prog 3 args W fun e W' => ∃ v, e = .returned v ∧ Rows.journalCallsSpec.post enc Tryz.prog Tryz.f3 false true false false W args v W' := by
 have hW' := hW
 obtain ⟨p, q, hA0, hV, rfl, hfz, hnd⟩ := hW
 have hA : DataW.TrodAll enc Tryz.prog W 0 (fun _ => true) true Tryz.f3.params.toList args.toList ds p := hA0
 rw [Tryz.params3] at hA hval
 obtain ⟨v0, vs0, d0, ds0, p0, q0, hargs0, rfl, rfl, h0, r0⟩ := trodAll_cons hA
 obtain ⟨v1, vs1, d1, ds1, p1, q1, hargs1, rfl, rfl, h1, r1⟩ := trodAll_cons r0
 obtain ⟨v2, vs2, d2, ds2, p2, q2, hargs2, rfl, rfl, h2, r2⟩ := trodAll_cons r1
 obtain ⟨v3, vs3, d3, ds3, p3, q3, hargs3, rfl, rfl, h3, r3⟩ := trodAll_cons r2
 obtain ⟨rfl, rfl, rfl⟩ := trodAll_nil r3
 obtain rfl : args = #[v0, v1, v2, v3] := by cases args; simp_all
 obtain ⟨rfl, rfl⟩ := trodVars_none hV
 have lt0 : ∀ x ∈ p0, x.block < W.heap.size := by obtain ⟨m, hm⟩ := h0; exact DataW.trod_lt m _ _ _ hm
 have lt1 : ∀ x ∈ p1, x.block < W.heap.size := by obtain ⟨m, hm⟩ := h1; exact DataW.trod_lt m _ _ _ hm
 have lt2 : ∀ x ∈ p2, x.block < W.heap.size := by obtain ⟨m, hm⟩ := h2; exact DataW.trod_lt m _ _ _ hm
 have lt3 : ∀ x ∈ p3, x.block < W.heap.size := by obtain ⟨m, hm⟩ := h3; exact DataW.trod_lt m _ _ _ hm
 simp only [List.append_nil] at hk
 have hb := bulk_bound hk
 have m0 := bulk_mem (d := d0) (l := [d0, d1, d2, d3]) (by simp)
 have m1 := bulk_mem (d := d1) (l := [d0, d1, d2, d3]) (by simp)
 have m2 := bulk_mem (d := d2) (l := [d0, d1, d2, d3]) (by simp)
 have m3 := bulk_mem (d := d3) (l := [d0, d1, d2, d3]) (by simp)
 have h0' := h0
 obtain ⟨c0, c1, c2, c3, y0, y1, y2, y3, n, rfl, hd0, _, t0, t1, t2, t3⟩ := Go.Joins.open_agg4 Tryz.underlying24 (by kernel_rfl) (by kernel_rfl) (hval 0 24 v0 rfl rfl) h0'
 obtain ⟨ha, hn, hcp, Hs, rfl, hR, hn1, hnil⟩ := open_bc t0
 obtain ⟨n1, e1, _, _⟩ := DataW.trod_int Tryz.underlying3 t1
 obtain ⟨n2, e2, _, _⟩ := DataW.trod_int Tryz.underlying3 t2
 obtain ⟨n3, e3, _, _⟩ := DataW.trod_int Tryz.underlying3 t3
 simp only [List.cons.injEq, and_true] at e1 e2 e3
 subst e1 e2 e3
 have h1' := h1
 obtain ⟨g0, g1, g2, g3, z0, z1, z2, z3, nB, rfl, hd1, _, u0, u1, u2, u3⟩ := Go.Joins.open_agg4 Tryz.underlying24 (by kernel_rfl) (by kernel_rfl) (hval 1 24 v1 rfl rfl) h1'
 obtain ⟨ha2, hn2, hcp2, Hs2, rfl, hR2, hn12, hnil2⟩ := open_bc u0
 obtain ⟨o1, f1, _, _⟩ := DataW.trod_int Tryz.underlying3 u1
 obtain ⟨o2, f2, _, _⟩ := DataW.trod_int Tryz.underlying3 u2
 obtain ⟨o3, f3, _, _⟩ := DataW.trod_int Tryz.underlying3 u3
 simp only [List.cons.injEq, and_true] at f1 f2 f3
 subst f1 f2 f3
 obtain ⟨a1, len1, cap1, rfl⟩ := okWide_slice Tryz.underlying25 (hval 2 25 v2 rfl rfl)
 have h2k := h2
 obtain ⟨fuel2, h2'⟩ := h2
 have hal := acts_len h2'
 obtain ⟨a1', c1', As, he1, hRA, hpl, hpd⟩ := open_acts h2'
 obtain ⟨rfl, rfl, rfl⟩ : a1 = a1' ∧ len1 = As.length ∧ cap1 = c1' := by injection he1 with x y z; exact ⟨x, y, z⟩
 obtain ⟨ya, yl, yc, rfl⟩ := okWide_slice Tryz.underlying26 (hval 3 26 v3 rfl rfl)
 have h3k := h3
 obtain ⟨fuel3, h3'⟩ := h3
 obtain ⟨ya', yc', Ys, he3, hRY, hyl⟩ := open_who h3'
 obtain ⟨rfl, rfl, rfl⟩ : ya = ya' ∧ yl = Ys.length ∧ yc = yc' := by injection he3 with x y z; exact ⟨x, y, z⟩
 have hdb : Rows.uptoBulk y0.1 ≤ Rows.uptoBulk d0 := by
  rw [hd0]
  simp only [Rows.uptoBulk, Rows.uptoBulkAll]
  omega
 have hdb2 : Rows.uptoBulk z0.1 ≤ Rows.uptoBulk d1 := by
  rw [hd1]
  simp only [Rows.uptoBulk, Rows.uptoBulkAll]
  omega
 have hal' : 4 * As.length ≤ Rows.uptoBulk d2 := hal
 have hyl' : Ys.length ≤ Rows.uptoBulk d3 := hyl
 have hpd' : ∀ q ∈ As, RdP (fun _ => False) W q.a0 q.ps ∧ q.ps.length ≤ Rows.uptoBulk d2 ∧ (∀ p ∈ q.ps, p.data.length ≤ Rows.uptoBulk d2 ∧ (p.ad = none → p.cap = 0)) := hpd
 clear hA0
 refine (calls_law ha hn hcp Hs n1 n2 n3 ha2 hn2 hcp2 Hs2 o1 o2 o3 a1 cap1 As ya yc Ys W hR (by omega) hnil hR2 (by omega) hnil2 hRA (by omega) (fun q hq => ⟨(hpd' q hq).1, by have := (hpd' q hq).2.1; omega, fun p hp => ⟨by have := ((hpd' q hq).2.2 p hp).1; omega, ((hpd' q hq).2.2 p hp).2⟩⟩) hRY (by omega)).mono fun e W' ⟨he, bel⟩ => ?_
 subst he
 exact ⟨_, rfl, _, _, _, [], _, [], hW', trodAll_mk1 (shut_bool Tryz.underlying4 _),
  (trodAll_cons_mk (Below.trod laidOut (by kernel_rfl) (of_decide_eq_true (by kernel_rfl)) h0 bel lt0) (trodAll_cons_mk (Below.trod laidOut (by kernel_rfl) (of_decide_eq_true (by kernel_rfl)) h1 bel lt1) (trodAll_cons_mk (Below.trod laidOut (by kernel_rfl) (of_decide_eq_true (by kernel_rfl)) h2k bel lt2) (trodAll_cons_mk (Below.trod laidOut (by kernel_rfl) (of_decide_eq_true (by kernel_rfl)) h3k bel lt3) trodAll_mk0)))), rfl, bel.frame _, fun h => by cases h⟩
set_option maxRecDepth 100000 in
theorem lifted (os : Os) (started : os.Started) (H : Type) (enc : TypeId × Value → H) (F : Stop.Interp) :
  ReturnsInHanded {} Tryz.checked os 3 .any ((Rows.OpenSpec.upto Rows.journalCallsSpec).pre6 enc Tryz.prog Tryz.f3 Rows.journalCallsUptoRow.domain false) (((Rows.OpenSpec.upto Rows.journalCallsSpec).at F).post enc Tryz.prog Tryz.f3 false true false false) := by
 refine returnsInHanded_of_cond (C := Tryz.checked) (s := Rows.OpenSpec.upto Rows.journalCallsSpec) (k := Rows.uptoSmall) rfl own started (by kernel_rfl) Tryz.func3
  (OpenSpec.witness (enc := enc) (C := Tryz.checked) (s := Rows.OpenSpec.upto Rows.journalCallsSpec) (k := Rows.uptoSmall) rfl false ⟨#[], #[.agg #[.slice none 0 0, .int .i64 0, .int .i64 0, .int .i64 0], .agg #[.slice none 0 0, .int .i64 0, .int .i64 0, .int .i64 0], .slice none 0 0, .slice none 0 0], []⟩ 8 (by kernel_rfl) (by kernel_rfl) (by kernel_rfl)
   (x := ([.agg [.nil, .lit (.int .i64 0), .lit (.int .i64 0), .lit (.int .i64 0)], .agg [.nil, .lit (.int .i64 0), .lit (.int .i64 0), .lit (.int .i64 0)], .nil, .nil], [], [])) (by kernel_rfl) rfl (by kernel_rfl)) ?_
 intro W base args ds gs before hval hW _ hk _
 exact contract H enc W base args ds gs before hval hW hk
theorem proved : Rows.JournalCallsUptoSaid :=
 OpenClaim.holds_of_cond 3 Tryz.f3 rfl rfl rfl rfl rfl rfl rfl ⟨rfl, rfl, rfl, rfl, rfl⟩ rfl rfl rfl rfl rfl (by kernel_rfl) Tryz.func3 (by kernel_rfl)
  (of_decide_eq_true (by kernel_rfl)) (by unfold Func.isWrapper; first | (rw [if_pos (by decide +kernel)]; kernel_rfl) | (rw [if_neg (by decide +kernel)]; exact ⟨rfl, rfl⟩))
  (fun os started H enc _ F => lifted os started H enc F)
end Go.Proofs.YtldlejpacgphmabGreat.journalCalls
