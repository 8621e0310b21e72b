/-
  CachePlays: the law.
-/
import Derived.Test.YtfadnmdmohabmaaDea
import Derived.Test.YtfadnmdmohabmaaSta
import Derived.Test.YtfadnmdmohabmaaOqa
import Derived.JoinedCond
import Derived.ChangeOld
import Derived.Below
import Derived.OpenShut
namespace Go.Proofs.Ytfadnmdmohabmaa
open Go.RowKit

theorem Dsk.ends {B : Nat} {w : World} {x m : Nat} (h : Dsk B w x m) (hm : m ≤ 262144) :
    Calls Try.prog 9 #[.pointer (some ⟨x, 6, none⟩)] w fun e w1 => e = .returned (.bool true) ∧ Below B w w1 ∧ Calls Try.prog 10 #[.pointer (some ⟨x, 14, none⟩)] w1 fun e w2 => e = .returned (.bool true) ∧ Below B w1 w2 := by
  obtain ⟨τ, p, r, nb, nK, v, cI, cJ, xI, xJ, D, sI, sJ, h⟩ := h
  have hB := h.hB
  have hx : ¬ x < B := fun hn => by
    have h1 := h.low x hn
    have h2 := h.dt.tx
    omega
  refine Calls.mono (h.dt.bholds (by have := h.b3; omega)) ?_
  rintro e w1 ⟨rfl, bf, bh, bm, bk, bw, d1, b1⟩
  have s1 := b1.size
  refine ⟨rfl, b1.below hB (fun y hy q => q.elim (fun q => by have := h.low y hy; omega) (fun q => by omega)), ?_⟩
  refine Calls.mono (d1.lholds (by have := h.l1; show v.lcnt ≤ _; omega)) ?_
  rintro e w2 ⟨rfl, d2, b2⟩
  exact ⟨rfl, b2.below (by omega) (fun y hy q => by omega)⟩
set_option maxRecDepth 100000 in
set_option maxHeartbeats 4000000 in
theorem plays_law {w : World} (bl r0 r1 : Int) {a : Option Addr} {n cp : Nat} {L : List CAct} (hS : CScr w.heap.size w a n L) (hn : n ≤ 262144) :
    Calls Try.prog 3 #[.int .i64 bl, .agg #[.int .i64 r0, .int .i64 r1], .slice a n cp] w fun e w' => e = .returned (.bool true) ∧ Below w.heap.size w w' := by
  have HS := hid hS
  have hlen := hS.len
  clear hS
  obtain ⟨W, hW⟩ : ∃ W, W = w.alloc (.cells #[.int .i64 r0, .int .i64 r1] 22) := ⟨_, rfl⟩
  have bW : Below w.heap.size w W := by rw [hW]; exact (Below.refl _ _).alloc (Nat.le_refl _) _
  have hsW : w.heap.size < W.heap.size := by rw [hW]; simp
  have Q0 : Hid (W.cell? ⟨w.heap.size, 0, none⟩ = some (.int .i64 r0)) := by show _ = _; rw [hW]; simp
  have Q1 : Hid (W.cell? ⟨w.heap.size, 1, none⟩ = some (.int .i64 r1)) := by show _ = _; rw [hW]; simp
  have BW := hid bW
  clear bW
  have HN := hid (nils_any W)
  go_enter Try.func3, Try.ntmps3
  go_wp2_with fail
  simp only [← hW]
  clear hW
  refine Calls.mono (CNew_nil W 0) ?_
  rintro e w0 ⟨rfl, hw0⟩
  rw [hw0]
  clear hw0 w0
  go_wp2_with fail
  refine Calls.mono (Num_any _ W) ?_
  rintro e w0 ⟨rfl, hw0⟩
  rw [hw0]
  clear hw0 w0
  go_wp2_with fail
  refine Calls.mono HN.out ?_
  rintro e w1 ⟨rfl, b1⟩
  clear HN
  have q0 := (b1.cell (p := ⟨w.heap.size, 0, none⟩) hsW).trans Q0.out
  have q1 := (b1.cell (p := ⟨w.heap.size, 1, none⟩) hsW).trans Q1.out
  have B1 : Hid (Below w.heap.size w w1) := BW.out.trans (b1.mono (by omega))
  clear b1 Q0 Q1 BW
  by_cases hb : bl < 1 ∨ 524288 < bl
  · have HO := hid (open_bad w1 bl r0 r1 hb)
    clear hb
    go_wp2_with fail
    refine Calls.mono HO.out ?_
    rintro e w2 ⟨rfl, b2⟩
    have B2 := hid b2
    clear b2 HO
    go_wp2
    go_ret
    exact ⟨rfl, B1.out.trans (B2.out.mono B1.out.size)⟩
  obtain ⟨nb, rfl⟩ : ∃ nb : Nat, bl = (nb : Int) := ⟨bl.toNat, by omega⟩
  have HO := hid (open_ok w1 nb r0 r1 (by omega) (by omega))
  clear hb
  go_wp2_with fail
  refine Calls.mono HO.out ?_
  rintro e w2 ⟨x, rfl, d2, b2⟩
  have HD : Hid (Dsk w.heap.size w2 x 0 ∧ Below w.heap.size w w2) := ⟨d2.low B1.out.size, B1.out.trans (b2.mono B1.out.size)⟩
  clear d2 b2 HO B1 q0 q1 hsW
  go_wp2_with fail
  go_loopw [11] (fun i wr => ∃ k : Nat, k ≤ n ∧ i = .int .i64 (k : Int) ∧ Dsk w.heap.size wr x k ∧ Below w.heap.size w wr) (fun i _ => n - (intOf i).toNat)
  case atStart => exact ⟨0, Nat.zero_le _, rfl, HD.out⟩
  case round =>
    clear HD
    obtain ⟨k, hk, rfl, hd, hbr⟩ := hrel
    by_cases hkn : k < n
    · have hSr := HS.out.below hbr
      obtain ⟨b, o, rfl, hbb, hc'⟩ := hSr.cel.resolve_left (by omega)
      have hkL : k < L.length := by omega
      have hdk : L[k]? = some L[k] := List.getElem?_eq_getElem hkL
      obtain ⟨q0, q1, q2, q3, q4⟩ := hc' k _ hdk
      have hok := hSr.ok L[k] (List.getElem_mem hkL)
      have HA := hid (step_any hd (by omega) L[k].wh L[k].kd L[k].at_ L[k].fi hok.wf hok.at_ L[k].aR L[k].nR L[k].cR L[k].zs hok.rd hok.n)
      have BR := hid hbr
      have hkn' : (k : Int) < (n : Int) := by omega
      generalize L[k] = d at *
      clear hSr hc' hdk hkL hd hbr hok
      unfold cactV at HA
      go_wp2_with fail
      refine Calls.mono HA.out ?_
      rintro e w2 ⟨rfl, hd2, b2⟩
      have F : Hid (Dsk w.heap.size w2 x (k + 1) ∧ Below w.heap.size w w2) := ⟨hd2, BR.out.trans b2⟩
      clear hd2 b2 HA BR q0 q1 q2 q3 q4
      go_wp2_with fail
      go_roundw
      case rel => exact ⟨k + 1, by omega, by go_num, F.out⟩
      case measure => simp [intOf]; omega
    · have hkn' : ¬ (k : Int) < (n : Int) := by omega
      have HE := hid (hd.ends (by omega))
      have BR := hid hbr
      clear hd hbr
      go_wp2_with fail
      refine Calls.mono HE.out ?_
      rintro e w3 ⟨rfl, b3, h3⟩
      have B3 := hid b3
      have H3 := hid h3
      clear b3 h3 HE
      go_wp2_with fail
      refine Calls.mono H3.out ?_
      rintro e w4 ⟨rfl, b4⟩
      have B4 := hid b4
      clear b4 H3
      go_wp2
      go_ret
      exact ⟨rfl, (BR.out.trans B3.out).trans B4.out⟩

end Go.Proofs.Ytfadnmdmohabmaa

/-
  CachePlays: the statement.
-/
namespace Go.Proofs.Ytfadnmdmohabmaa.cachePlays
open Go.ChangeShapes Go.WideShapes Go.ChangeAt Go.RowKit

theorem own : ownKnob Try.prog.godebug = none := by kernel_rfl
theorem laidOut : laidOutB Try.prog = true := by kernel_rfl

theorem two {A : Type} {l : List A} (h : l.length = 2) : ∃ a b, l = [a, b] :=
  match l, h with
  | [a, b], _ => ⟨a, b, rfl⟩
set_option maxRecDepth 100000 in
theorem open_rooms {H : Type} {enc : TypeId × Value → H} {W : World} {v : Value} {d : DataW H} {p : List MemPlace} (h : DataW.Trod enc Try.prog W 0 (fun _ => true) true 22 v d p) : ∃ r0 r1, v = .agg #[.int .i64 r0, .int .i64 r1] := by
  obtain ⟨fuel, hf⟩ := h
  obtain ⟨xs, m, _, _, hlen, hxl, hx⟩ := DataW.trod_array Try.underlying22 hf
  rw [show Try.prog.cellsOf 22 = 2 by kernel_rfl] at hlen
  have c3 : Try.prog.cellsOf 3 = 1 := by kernel_rfl
  cases v with
  | agg cs =>
    obtain ⟨cs⟩ := cs
    simp only [Value.cells] at hlen hx
    obtain ⟨a0, a1, rfl⟩ := two hlen
    obtain ⟨y0, y1, rfl⟩ := two hxl
    · have g0 := hx 0 (by omega)
      have g1 := hx 1 (by omega)
      simp [c3] at g0 g1
      obtain ⟨q0, eq0, _, _⟩ := DataW.trod_int Try.underlying3 g0
      obtain ⟨q1, eq1, _, _⟩ := DataW.trod_int Try.underlying3 g1
      simp at eq0 eq1
      subst eq0 eq1
      exact ⟨q0, q1, rfl⟩
  | _ => simp [Value.cells] at hlen

set_option maxRecDepth 100000 in
theorem contract (H : Type) (enc : TypeId × Value → H) (W : World) (base : Nat) (args : Array Value) (ds gs : List (DataW H)) (before : List MemPlace)
    (hval : ∀ (j : Nat) t v, Try.f3.params[j]? = some t → args[j]? = some v → Value.okWide Try.prog W .any base t v)
    (hW : DataW.Whole enc Try.prog Try.f3.params.toList Rows.cachePlaysSpec.vars false W args.toList ds gs before) (hk : Rows.uptoSmall H (ds ++ gs) = true) :
    Calls Try.prog 3 args W fun e W' => ∃ v, e = .returned v ∧ Rows.cachePlaysSpec.post enc Try.prog Try.f3 false true false false W args v W' := by
  have hW' := hW
  obtain ⟨p, q, hA0, hV, rfl, hfz, hnd⟩ := hW
  have hA : DataW.TrodAll enc Try.prog W 0 (fun _ => true) true Try.f3.params.toList args.toList ds p := hA0
  rw [Try.params3] at hA hval
  obtain ⟨v0, vs0, d0, ds0, p0, q0, hargs0, rfl, rfl, h0, r0⟩ := trodAll_cons hA
  obtain ⟨v1, vs1, d1, ds1, p1, q1, hargs1, rfl, rfl, h1, r1⟩ := trodAll_cons r0
  obtain ⟨v2, vs2, d2, ds2, p2, q2, hargs2, rfl, rfl, h2, r2⟩ := trodAll_cons r1
  obtain ⟨rfl, rfl, rfl⟩ := trodAll_nil r2
  obtain rfl : args = #[v0, v1, v2] := by cases args; simp_all
  obtain ⟨rfl, rfl⟩ := trodVars_none hV
  obtain ⟨b0, rfl⟩ := okWide_int Try.underlying3 (hval 0 3 v0 rfl rfl)
  obtain ⟨b1, b2, rfl⟩ := open_rooms h1
  obtain ⟨a2, len2, cap2, rfl⟩ := okWide_slice Try.underlying23 (hval 2 23 v2 rfl rfl)
  have lt0 : ∀ x ∈ p0, x.block < W.heap.size := by obtain ⟨m, hm⟩ := h0; exact DataW.trod_lt m _ _ _ hm
  have lt1 : ∀ x ∈ p1, x.block < W.heap.size := by obtain ⟨m, hm⟩ := h1; exact DataW.trod_lt m _ _ _ hm
  have lt2 : ∀ x ∈ p2, x.block < W.heap.size := by obtain ⟨m, hm⟩ := h2; exact DataW.trod_lt m _ _ _ hm
  simp only [List.append_nil] at hk
  have hb := bulk_bound hk
  have m2 := bulk_mem (d := d2) (l := [d0, d1, d2]) (by simp)
  obtain ⟨hm, L, hS⟩ := open_script h2 (by omega)
  clear hA0
  refine (plays_law b0 b1 b2 hS hm).mono fun e W' ⟨he, bel⟩ => ?_
  subst he
  exact ⟨_, rfl, _, _, _, [], _, [], hW', trodAll_mk1 (shut_bool Try.underlying4 _),
    (trodAll_cons_mk (Below.trod laidOut (by kernel_rfl) (of_decide_eq_true (by kernel_rfl)) h0 bel lt0) (trodAll_cons_mk (Below.trod laidOut (by kernel_rfl) (of_decide_eq_true (by kernel_rfl)) h1 bel lt1) (trodAll_cons_mk (Below.trod laidOut (by kernel_rfl) (of_decide_eq_true (by kernel_rfl)) h2 bel lt2) trodAll_mk0))), rfl, bel.frame _, fun h => by cases h⟩

set_option maxRecDepth 100000 in
theorem lifted (os : Os) (started : os.Started) (H : Type) (enc : TypeId × Value → H) (F : Stop.Interp) :
    ReturnsInHanded {} Try.checked os 3 .any ((Rows.OpenSpec.upto Rows.cachePlaysSpec).pre6 enc Try.prog Try.f3 Rows.cachePlaysUptoRow.domain false) (((Rows.OpenSpec.upto Rows.cachePlaysSpec).at F).post enc Try.prog Try.f3 false true false false) := by
  refine returnsInHanded_of_cond (C := Try.checked) (s := Rows.OpenSpec.upto Rows.cachePlaysSpec) (k := Rows.uptoSmall) rfl own started (by kernel_rfl) Try.func3
    (OpenSpec.witness (enc := enc) (C := Try.checked) (s := Rows.OpenSpec.upto Rows.cachePlaysSpec) (k := Rows.uptoSmall) rfl false ⟨#[], #[.int .i64 0, .agg #[.int .i64 0, .int .i64 0], .slice none 0 0], []⟩ 8 (by kernel_rfl) (by kernel_rfl) (by kernel_rfl)
      (x := ([.lit (.int .i64 0), .agg [.lit (.int .i64 0), .lit (.int .i64 0)], .nil], [], [])) (by kernel_rfl) rfl (by kernel_rfl)) ?_
  intro W base args ds gs before hval hW _ hk _
  exact contract H enc W base args ds gs before hval hW hk

theorem proved : Rows.CachePlaysUptoSaid :=
  OpenClaim.holds_of_cond 3 Try.f3 rfl rfl rfl rfl rfl rfl rfl ⟨rfl, rfl, rfl, rfl, rfl⟩ rfl rfl rfl rfl rfl (by kernel_rfl) Try.func3 (by kernel_rfl)
    (of_decide_eq_true (by kernel_rfl)) (by unfold Func.isWrapper; first | (rw [if_pos (by decide +kernel)]; kernel_rfl) | (rw [if_neg (by decide +kernel)]; exact ⟨rfl, rfl⟩))
    (fun os started H enc _ F => lifted os started H enc F)
end Go.Proofs.Ytfadnmdmohabmaa.cachePlays
