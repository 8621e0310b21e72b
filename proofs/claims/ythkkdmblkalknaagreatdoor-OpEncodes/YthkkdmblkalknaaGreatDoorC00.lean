import Derived.Test.YthkkdmblkalknaaGreatDoorA12
import Derived.Test.YthkkdmblkalknaaGreatDoorA09
import Derived.Deep.RegionHeld3
import Derived.Deep.RegionLaw
import Derived.Test.YthkkdmblkalknaaGreatDoorA18
import Derived.Test.YthkkdmblkalknaaGreatDoorA08
import Derived.Test.YthkkdmblkalknaaGreatDoorB04
/-
  The document's hex.
-/
namespace Go.Proofs.YthkkdmblkalknaaGreatDoor
open Go.RowKit

theorem app_two {B : Nat} {w : World} {v : Value} {zs : List Int} (ho : Ow B w v zs) (p q : Int) {g : Nat} (hg : w.heap[g]? = some (.cells #[.int .u8 p, .int .u8 q] 5 (0, 0))) (hz : zs.length ≤ 1073741824) (hw : B ≤ w.heap.size) (hp : 0 ≤ p ∧ p < 256) (hq : 0 ≤ q ∧ q < 256) :
    ∃ v' w', (Builtin.append_ #[23, 23] 23 #[v, .slice (some ⟨g, 0, none⟩) 2 2]).run Tryz.prog w = .ok v' w' ∧ Ow B w' v' (zs ++ [p, q]) ∧ Gr w w' v v' := by
  have hR : Rd w.heap.size w (some ⟨g, 0, none⟩) 2 [p, q] := by
    refine ⟨rfl, ?_, .inr ⟨g, 0, rfl, (Array.getElem?_eq_some_iff.1 hg).1, fun t ht => ?_⟩⟩
    · intro z hz
      simp only [List.mem_cons, List.not_mem_nil, or_false] at hz
      rcases hz with rfl | rfl
      · exact hp
      · exact hq
    · have ht' : t = 0 ∨ t = 1 := by omega
      rcases ht' with rfl | rfl <;> simp [World.cell?, hg]
  exact app_rd 23 ho hR (fun e => by cases e) (by omega) hz hw

theorem step_append_run {ops : Array Oper} {o : Oper} {a : Act} {w : World} {K : Act → World → Prop} {Q : Exit → Act → World → Prop} {E : Prop} (hgd : o.guard = none) (s x : Operand) (t tn : TypeId)
    (ho : o.op = .call { callee := .builtin .append, args := #[s, x], argTypes := #[t, tn] }) (vs vx : Value) (hs : a.eval s = vs) (hx : a.eval x = vx)
    (v' : Value) (w' : World) (hr : (Builtin.append_ #[t, tn] o.type #[vs, vx]).run Tryz.prog w = .ok v' w') (h : K (a.put o.dst v') w') :
    if Region.wanted o (yielded ops a.tmps) = true then Oper.wp Tryz.prog o a w K Q else E := by
  have hw : Region.wanted o (yielded ops a.tmps) = true := by simp [Region.wanted, hgd]
  rw [if_pos hw]
  exact Lib.wp_append_run w s x t tn ho vs vx hs hx v' w' hr h
/-- the digits as numbers -/
def hexN (z : Int) : List Int := (hex1 z).map fun b => (b.toNat : Int)
theorem digN (i : Nat) (h : i < 16) : (⟨#[48, 49, 50, 51, 52, 53, 54, 55, 56, 57, 97, 98, 99, 100, 101, 102]⟩ : ByteArray)[i]'h = hxs.getD i 0 := by
  show (#[48, 49, 50, 51, 52, 53, 54, 55, 56, 57, 97, 98, 99, 100, 101, 102] : Array UInt8)[i]'h = hxs.getD i 0
  unfold hxs
  simp [h]
theorem hexN_eq (z : Int) : hexN z = [((hxs.getD (z.toNat / 16) 0).toNat : Int), ((hxs.getD (z.toNat % 16) 0).toNat : Int)] := rfl
theorem hexN_bd (z : Int) : Pl.isB (hexN z) := by
  intro x hx
  unfold hexN at hx
  obtain ⟨b, _, rfl⟩ := List.mem_map.1 hx
  have := b.toNat_lt
  omega
def hexNs (da : List Int) : List Int := da.flatMap hexN
theorem hexNs_eq (da : List Int) : hexNs da = (hexL da).map fun b => (b.toNat : Int) := by
  unfold hexNs hexL hexN
  rw [List.map_flatMap]
theorem hexNs_len (da : List Int) : (hexNs da).length = 2 * da.length := by rw [hexNs_eq, List.length_map, len_hexL]
theorem hexNs_isB (da : List Int) : Pl.isB (hexNs da) := by
  intro x hx
  unfold hexNs at hx
  obtain ⟨z, _, hz⟩ := List.mem_flatMap.1 hx
  exact hexN_bd z x hz
theorem str_hexNs (da : List Int) : strOfNums (hexNs da) = ⟨(hexL da).toArray⟩ := by
  rw [hexNs_eq]
  unfold strOfNums
  congr 1
  simp [Function.comp_def]

set_option maxRecDepth 100000 in
set_option maxHeartbeats 4000000 in
theorem rhex_any (a : Option Addr) (n c : Nat) (da : List Int) (w : World) (hn : n ≤ 16777216) (hR : Rd w.heap.size w a n da) :
    Calls Tryz.prog 92 #[.slice a n c] w fun e w' => e = .returned (.string ⟨(hexL da).toArray⟩) ∧ Below w.heap.size w w' := by
  have HR := hid hR
  have hnl := hR.1
  clear hR
  go_enter Tryz.func92, Tryz.ntmps92
  go_wp2_with fail
  go_loopw [3, 4] (fun v i wr => ∃ (r m : Nat) (va : Option Addr) (vc : Nat), r ≤ n ∧ i = .int .i64 (r : Int) ∧ v = .slice va m vc ∧ Below w.heap.size w wr ∧ Ow w.heap.size wr (.slice va m vc) (hexNs (da.take r))) (fun _ i _ => n - (intOf i).toNat)
  case atStart => exact ⟨0, 0, none, 0, Nat.zero_le _, rfl, rfl, Below.refl _ _, Ow.nil _ _⟩
  case round =>
    obtain ⟨r, m, va, vc, hr, rfl, rfl, hb, ho⟩ := hrel
    by_cases hlt : r < n
    · have hR2 := HR.out.below hb
      obtain ⟨g, off, rfl, hgl, hc⟩ := hR2.2.2.resolve_left (by omega)
      have hc0 := hc r hlt
      have hz := Pl.isB_getD HR.out.2.1 r
      have hz0 : da.getD r 0 = da[r]?.getD 0 := List.getD_eq_getElem?_getD ..
      rw [hz0] at hc0
      generalize hzz : da[r]?.getD 0 = z at *
      have HZ0 := hid hzz
      obtain ⟨y1, hy1⟩ : ∃ y1, y1 = z / 16 := ⟨_, rfl⟩
      obtain ⟨y2, hy2⟩ : ∃ y2, y2 = z % 16 := ⟨_, rfl⟩
      have z1 : 0 ≤ y1 := by omega
      have z2 : y1 < 16 := by omega
      have z3 : 0 ≤ y2 := by omega
      have z4 : y2 < 16 := by omega
      have hq : IntKind.u8.wrap (z.tdiv 16) = y1 := by
        rw [Int.tdiv_eq_ediv_of_nonneg hz.1, hy1]
        simp [IntKind.wrap, IntKind.signed, IntKind.bits]
        omega
      have hm2 : z.tmod 16 = y2 := by rw [Int.tmod_eq_emod_of_nonneg hz.1, hy2]
      have hm : IntKind.u8.wrap (z.tmod 16) = y2 := by
        rw [Int.tmod_eq_emod_of_nonneg hz.1, hy2]
        simp [IntKind.wrap, IntKind.signed, IntKind.bits]
        omega
      have hr1 : (r : Int) < (n : Int) := by omega
      have q1 : (y1).toNat < (⟨#[48, 49, 50, 51, 52, 53, 54, 55, 56, 57, 97, 98, 99, 100, 101, 102]⟩ : ByteArray).size := by show _ < 16; omega
      have q2 : (y2).toNat < (⟨#[48, 49, 50, 51, 52, 53, 54, 55, 56, 57, 97, 98, 99, 100, 101, 102]⟩ : ByteArray).size := by show _ < 16; omega
      have e1 : (((⟨#[48, 49, 50, 51, 52, 53, 54, 55, 56, 57, 97, 98, 99, 100, 101, 102]⟩ : ByteArray)[(y1).toNat]'q1).toNat : Int) = ((hxs.getD (z.toNat / 16) 0).toNat : Int) := by
        rw [digN _ q1, show (y1).toNat = z.toNat / 16 by omega]
      have e2 : (((⟨#[48, 49, 50, 51, 52, 53, 54, 55, 56, 57, 97, 98, 99, 100, 101, 102]⟩ : ByteArray)[(y2).toNat]'q2).toNat : Int) = ((hxs.getD (z.toNat % 16) 0).toNat : Int) := by
        rw [digN _ q2, show (y2).toNat = z.toNat % 16 by omega]
      have hL : (hexNs (da.take r)).length ≤ 33554432 := by rw [hexNs_len, List.length_take]; omega
      obtain ⟨W, hW⟩ : ∃ W, W = (wr.alloc (.cells #[.int .u8 (((⟨#[48, 49, 50, 51, 52, 53, 54, 55, 56, 57, 97, 98, 99, 100, 101, 102]⟩ : ByteArray)[(y1).toNat]'q1).toNat : Int), .int .u8 (((⟨#[48, 49, 50, 51, 52, 53, 54, 55, 56, 57, 97, 98, 99, 100, 101, 102]⟩ : ByteArray)[(y2).toNat]'q2).toNat : Int)] 5)).drew := ⟨_, rfl⟩
      have bW : Below wr.heap.size wr W := by rw [hW]; exact (below1 _ _).trans (below_drew _ _)
      have nW : W.heap[wr.heap.size]? = some (.cells #[.int .u8 (((⟨#[48, 49, 50, 51, 52, 53, 54, 55, 56, 57, 97, 98, 99, 100, 101, 102]⟩ : ByteArray)[(y1).toNat]'q1).toNat : Int), .int .u8 (((⟨#[48, 49, 50, 51, 52, 53, 54, 55, 56, 57, 97, 98, 99, 100, 101, 102]⟩ : ByteArray)[(y2).toNat]'q2).toNat : Int)] 5 (0, 0)) := by rw [hW]; exact heap_new _ _
      obtain ⟨v', w', hrun, ho', hg'⟩ := app_two (ho.next bW) _ _ nW (by omega) (Nat.le_trans hb.size bW.size) (by have := ((⟨#[48, 49, 50, 51, 52, 53, 54, 55, 56, 57, 97, 98, 99, 100, 101, 102]⟩ : ByteArray)[(y1).toNat]'q1).toNat_lt; omega) (by have := ((⟨#[48, 49, 50, 51, 52, 53, 54, 55, 56, 57, 97, 98, 99, 100, 101, 102]⟩ : ByteArray)[(y2).toNat]'q2).toNat_lt; omega)
      rw [e1, e2, ← hexN_eq z] at ho'
      rw [hW] at hrun
      obtain ⟨va', vc', hv'⟩ := ho'.form
      obtain ⟨m', hm'⟩ : ∃ m', m' = (hexNs (da.take r) ++ hexN z).length := ⟨_, rfl⟩
      rw [← hm'] at hv'
      subst hv'
      clear hm'
      have hb' : Below w.heap.size w w' := (hb.trans (bW.mono hb.size)).trans (hg'.below (Nat.le_trans hb.size bW.size) (fun g hg => ho.base g hg))
      have hst : hexNs (da.take (r + 1)) = hexNs (da.take r) ++ hexN z := by
        unfold hexNs
        rw [List.take_add_one, List.flatMap_append, List.getElem?_eq_getElem (by omega)]
        have : da[r]'(by omega) = z := by simpa [show r < da.length by omega] using hzz
        simp [this]
      rw [← hst] at ho'
      have HF := hid (And.intro hb' ho')
      clear hc hR2 hz0 hzz ho hb HR e1 e2 hL hW bW nW ho' hg' hb' hst HZ0 hy1 hy2 hz
      go_wp2_with fail
      go_region_law (refine step_append_run rfl _ _ _ _ (by rfl) _ _ (by rfl) (by rfl) _ _ (by exact hrun) ?_)
      all_goals go_wp2
      all_goals
        go_roundw
        case rel => exact ⟨r + 1, _, va', vc', by omega, by go_num, rfl, HF.out.1, HF.out.2⟩
        case measure => simp [intOf]; omega
    · have e : r = n := by omega
      subst e
      rw [List.take_of_length_le (by omega)] at ho
      obtain ⟨va2, vc2, hv2, _, hRv, _⟩ := ho.rd (hexNs_isB da)
      simp only [Value.slice.injEq] at hv2
      obtain ⟨rfl, rfl, rfl⟩ := hv2
      have e1 := conv_str hRv vc
      rw [str_hexNs] at e1
      have HB := hid hb
      clear ho hRv hb HR
      go_wp2
      go_ret
      exact ⟨rfl, HB.out⟩

end Go.Proofs.YthkkdmblkalknaaGreatDoor
/-
  The document's Line.
-/
namespace Go.Proofs.YthkkdmblkalknaaGreatDoor
open Go.RowKit

/-- a line without its end -/
def rL (o : PO) : ByteArray := ⟨(Lib.join ((txts o (wordsOf o.k.toNat)).map (·.data.toList)) [32]).toArray⟩
theorem ba_app (a b : ByteArray) : (a ++ b).data.toList = a.data.toList ++ b.data.toList := by
  show (ByteArray.append a b).data.toList = _
  simp [ByteArray.append]
set_option linter.unusedSimpArgs false in
set_option maxRecDepth 100000 in
theorem rL_1 {o : PO} (h : o.k = 1) : ((((⟨#[99, 114, 101, 97, 116, 101, 32]⟩ : ByteArray) ++ o.nm) ++ ⟨#[32]⟩) ++ itoaB o.to) = rL o := by
  apply ba_ext
  unfold rL
  rw [h]
  simp only [ba_app]
  simp [wordsOf, frm, nw, tl, kw, txts, shownB, Lib.join, List.intercalate, cNM, cTO, cOT, cFR, cDA, wof, wto, wfrom]
set_option linter.unusedSimpArgs false in
set_option maxRecDepth 100000 in
theorem rL_2 {o : PO} (h : o.k = 2) : ((((⟨#[115, 110, 97, 112, 32]⟩ : ByteArray) ++ o.nm) ++ ⟨#[32, 111, 102, 32]⟩) ++ o.ot) = rL o := by
  apply ba_ext
  unfold rL
  rw [h]
  simp only [ba_app]
  simp [wordsOf, frm, nw, tl, kw, txts, shownB, Lib.join, List.intercalate, cNM, cTO, cOT, cFR, cDA, wof, wto, wfrom]
set_option linter.unusedSimpArgs false in
set_option maxRecDepth 100000 in
theorem rL_3 {o : PO} (h : o.k = 3) : ((((⟨#[99, 108, 111, 110, 101, 32]⟩ : ByteArray) ++ o.nm) ++ ⟨#[32, 111, 102, 32]⟩) ++ o.ot) = rL o := by
  apply ba_ext
  unfold rL
  rw [h]
  simp only [ba_app]
  simp [wordsOf, frm, nw, tl, kw, txts, shownB, Lib.join, List.intercalate, cNM, cTO, cOT, cFR, cDA, wof, wto, wfrom]
set_option linter.unusedSimpArgs false in
set_option maxRecDepth 100000 in
theorem rL_4 {o : PO} (h : o.k = 4) : ((((⟨#[114, 101, 115, 105, 122, 101, 32]⟩ : ByteArray) ++ o.nm) ++ ⟨#[32]⟩) ++ itoaB o.to) = rL o := by
  apply ba_ext
  unfold rL
  rw [h]
  simp only [ba_app]
  simp [wordsOf, frm, nw, tl, kw, txts, shownB, Lib.join, List.intercalate, cNM, cTO, cOT, cFR, cDA, wof, wto, wfrom]
set_option linter.unusedSimpArgs false in
set_option maxRecDepth 100000 in
theorem rL_5 {o : PO} (h : o.k = 5) : ((((⟨#[114, 101, 110, 97, 109, 101, 32]⟩ : ByteArray) ++ o.nm) ++ ⟨#[32, 116, 111, 32]⟩) ++ o.ot) = rL o := by
  apply ba_ext
  unfold rL
  rw [h]
  simp only [ba_app]
  simp [wordsOf, frm, nw, tl, kw, txts, shownB, Lib.join, List.intercalate, cNM, cTO, cOT, cFR, cDA, wof, wto, wfrom]
set_option linter.unusedSimpArgs false in
set_option maxRecDepth 100000 in
theorem rL_6 {o : PO} (h : o.k = 6) : ((⟨#[100, 101, 108, 101, 116, 101, 32]⟩ : ByteArray) ++ o.nm) = rL o := by
  apply ba_ext
  unfold rL
  rw [h]
  simp only [ba_app]
  simp [wordsOf, frm, nw, tl, kw, txts, shownB, Lib.join, List.intercalate, cNM, cTO, cOT, cFR, cDA, wof, wto, wfrom]
set_option linter.unusedSimpArgs false in
set_option maxRecDepth 100000 in
theorem rL_7 {o : PO} (h : o.k = 7) : ((((⟨#[114, 101, 115, 116, 111, 114, 101, 32]⟩ : ByteArray) ++ o.nm) ++ ⟨#[32, 102, 114, 111, 109, 32]⟩) ++ o.ot) = rL o := by
  apply ba_ext
  unfold rL
  rw [h]
  simp only [ba_app]
  simp [wordsOf, frm, nw, tl, kw, txts, shownB, Lib.join, List.intercalate, cNM, cTO, cOT, cFR, cDA, wof, wto, wfrom]
set_option linter.unusedSimpArgs false in
set_option maxRecDepth 100000 in
theorem rL_8 {o : PO} (h : o.k = 8) : ((((((⟨#[119, 114, 105, 116, 101, 32]⟩ : ByteArray) ++ o.nm) ++ ⟨#[32]⟩) ++ itoaB o.fr) ++ ⟨#[32]⟩) ++ ⟨(hexL o.da).toArray⟩) = rL o := by
  apply ba_ext
  unfold rL
  rw [h]
  simp only [ba_app]
  simp [wordsOf, frm, nw, tl, kw, txts, shownB, Lib.join, List.intercalate, cNM, cTO, cOT, cFR, cDA, wof, wto, wfrom]
set_option linter.unusedSimpArgs false in
set_option maxRecDepth 100000 in
theorem rL_9 {o : PO} (h : o.k = 9) : ((((((⟨#[100, 105, 115, 99, 97, 114, 100, 32]⟩ : ByteArray) ++ o.nm) ++ ⟨#[32]⟩) ++ itoaB o.fr) ++ ⟨#[32]⟩) ++ itoaB o.to) = rL o := by
  apply ba_ext
  unfold rL
  rw [h]
  simp only [ba_app]
  simp [wordsOf, frm, nw, tl, kw, txts, shownB, Lib.join, List.intercalate, cNM, cTO, cOT, cFR, cDA, wof, wto, wfrom]
set_option linter.unusedSimpArgs false in
set_option maxRecDepth 100000 in
theorem rL_10 {o : PO} (h : o.k = 10) : ((((((⟨#[102, 105, 108, 108, 32]⟩ : ByteArray) ++ o.nm) ++ ⟨#[32]⟩) ++ itoaB o.fr) ++ ⟨#[32]⟩) ++ itoaB o.to) = rL o := by
  apply ba_ext
  unfold rL
  rw [h]
  simp only [ba_app]
  simp [wordsOf, frm, nw, tl, kw, txts, shownB, Lib.join, List.intercalate, cNM, cTO, cOT, cFR, cDA, wof, wto, wfrom]
set_option linter.unusedSimpArgs false in
set_option maxRecDepth 100000 in
theorem rL_11 {o : PO} (h : o.k = 11) : ((⟨#[101, 120, 116, 101, 110, 100, 32]⟩ : ByteArray) ++ itoaB o.to) = rL o := by
  apply ba_ext
  unfold rL
  rw [h]
  simp only [ba_app]
  simp [wordsOf, frm, nw, tl, kw, txts, shownB, Lib.join, List.intercalate, cNM, cTO, cOT, cFR, cDA, wof, wto, wfrom]

/-- the calls of Line -/
def LnC (S : Nat) (o : PO) (a : Option Addr) (c : Nat) (W0 : World) (Q : World → Prop) : Prop :=
  Calls Tryz.prog 91 #[.int .i64 o.fr] W0 fun e w1 => e = .returned (.string (itoaB o.fr)) ∧ w1.cell? ⟨S, 4, none⟩ = some (.int .i64 o.to) ∧
    Calls Tryz.prog 91 #[.int .i64 o.to] w1 fun e w2 => e = .returned (.string (itoaB o.to)) ∧ (w2.cell? ⟨S, 0, none⟩ = some (.int .i64 o.k) ∧ w2.cell? ⟨S, 1, none⟩ = some (.string o.nm) ∧ w2.cell? ⟨S, 2, none⟩ = some (.string o.ot) ∧ w2.cell? ⟨S, 5, none⟩ = some (.slice a o.da.length c)) ∧ Q w2 ∧
    Calls Tryz.prog 92 #[.slice a o.da.length c] w2.drew fun e w3 => e = .returned (.string ⟨(hexL o.da).toArray⟩) ∧ Q w3 ∧ w3.cell? ⟨S, 1, none⟩ = some (.string o.nm) ∧ w3.cell? ⟨S, 5, none⟩ = some (.slice a o.da.length c)
theorem lnC_any {o : PO} {a : Option Addr} {c : Nat} {w W0 : World} (hW : W0 = w.alloc (.cells #[.int .i64 o.k, .string o.nm, .string o.ot, .int .i64 o.fr, .int .i64 o.to, .slice a o.da.length c] 29)) (hG : GT w) (hok : okO o) (hR : Rd w.heap.size w a o.da.length o.da) : LnC w.heap.size o a c W0 fun w' => Below w.heap.size w w' := by
  have b0 : Below w.heap.size w W0 := by rw [hW]; exact below1 _ _
  have n0 : W0.heap[w.heap.size]? = some (.cells #[.int .i64 o.k, .string o.nm, .string o.ot, .int .i64 o.fr, .int .i64 o.to, .slice a o.da.length c] 29 (0, 0)) := by rw [hW]; exact heap_new _ _
  have l0 : w.heap.size < W0.heap.size := by rw [hW]; simp
  refine (Itoa_any o.fr hok.f0 hok.f1 W0 (hG.next b0)).mono ?_
  rintro e w1 ⟨rfl, b1⟩
  have n1 := (b1.block _ l0).trans n0
  have b1' := b0.trans (b1.mono b0.size)
  refine ⟨rfl, by simp [World.cell?, n1], (Itoa_any o.to hok.t0 hok.t1 w1 (hG.next b1')).mono ?_⟩
  rintro e w2 ⟨rfl, b2⟩
  have n2 := (b2.block _ (Nat.lt_of_lt_of_le l0 b1.size)).trans n1
  have b2' := b1'.trans (b2.mono b1'.size)
  refine ⟨rfl, ⟨by simp [World.cell?, n2], by simp [World.cell?, n2], by simp [World.cell?, n2], by simp [World.cell?, n2]⟩, b2', (rhex_any a o.da.length c o.da w2.drew hok.da (((hR.below b2').mono b2'.size).below (below_drew _ _))).mono ?_⟩
  rintro e w3 ⟨rfl, b3⟩
  have n3 : w3.heap[w.heap.size]? = _ := (b3.block _ (Nat.lt_of_lt_of_le l0 (Nat.le_trans b1.size b2.size))).trans n2
  exact ⟨rfl, b2'.trans ((below_drew _ _).trans (b3.mono b2'.size)), by simp [World.cell?, n3], by simp [World.cell?, n3]⟩
set_option maxRecDepth 100000 in
set_option maxHeartbeats 8000000 in
theorem rLine_any (o : PO) (a : Option Addr) (c : Nat) (w : World) (hG : GT w) (hk : o.ck = 0) (hok : okO o) (hR : Rd w.heap.size w a o.da.length o.da) :
    Calls Tryz.prog 56 #[opV o.k o.nm o.ot o.fr o.to a o.da.length c] w fun e w' => e = .returned (.string (rL o)) ∧ Below w.heap.size w w' := by
  obtain ⟨W0, hW0⟩ : ∃ W0, W0 = w.alloc (.cells #[.int .i64 o.k, .string o.nm, .string o.ot, .int .i64 o.fr, .int .i64 o.to, .slice a o.da.length c] 29) := ⟨_, rfl⟩
  have HC := hid (lnC_any hW0 hG hok hR)
  unfold LnC at HC
  have hck := ck_ok (show ckO o.k o.nm o.ot o.fr o.to o.da.length = 0 from hk)
  have HK := hid (kinds hck.k1 hck.k2)
  have HW0 := hid hW0
  have hdl := hok.da
  have n1 : o.nm.size ≤ 31 := hck.nm
  have n2 : o.ot.size ≤ 31 := hck.ot
  have n3 : (itoaB o.fr).size ≤ 6 := itoa_len hck.f0 hck.f1
  have n4 : (itoaB o.to).size ≤ 6 := itoa_len hck.t0 hck.t1
  have n5 : (⟨(hexL o.da).toArray⟩ : ByteArray).size ≤ 1024 := by
    show (hexL o.da).toArray.size ≤ 1024
    rw [List.size_toArray, len_hexL]
    have := hck.n
    omega
  clear hG hk hok hR hck hW0
  obtain ⟨rv, hrv⟩ : ∃ rv, rv = rL o := ⟨_, rfl⟩
  have HRV := hid hrv
  rw [← hrv]
  clear hrv
  go_enter Tryz.func56, Tryz.ntmps56
  go_wp2_with fail
  rw [← HW0.out]
  refine HC.out.mono ?_
  rintro e w1 ⟨rfl, c4, h1⟩
  have H1 := hid h1
  clear h1 HC
  go_wp2_with fail
  refine H1.out.mono ?_
  rintro e w2 ⟨rfl, ⟨c0, c1, c2, c5⟩, hb2, h92⟩
  have HB := hid hb2
  have H92 := hid h92
  clear H1 hb2 h92 c4 HW0
  have hkk := HK.out
  clear HK
  rcases hkk with hk | hk | hk | hk | hk | hk | hk | hk | hk | hk | hk
  · have HE := hid (rL_1 hk)
    rw [hk] at c0
    clear hk
    go_wp2
    go_ret
    exact ⟨by rw [HRV.out, ← HE.out]; rfl, HB.out⟩
  · have HE := hid (rL_2 hk)
    rw [hk] at c0
    clear hk
    go_wp2
    go_ret
    exact ⟨by rw [HRV.out, ← HE.out]; rfl, HB.out⟩
  · have HE := hid (rL_3 hk)
    rw [hk] at c0
    clear hk
    go_wp2
    go_ret
    exact ⟨by rw [HRV.out, ← HE.out]; rfl, HB.out⟩
  · have HE := hid (rL_4 hk)
    rw [hk] at c0
    clear hk
    go_wp2
    go_ret
    exact ⟨by rw [HRV.out, ← HE.out]; rfl, HB.out⟩
  · have HE := hid (rL_5 hk)
    rw [hk] at c0
    clear hk
    go_wp2
    go_ret
    exact ⟨by rw [HRV.out, ← HE.out]; rfl, HB.out⟩
  · have HE := hid (rL_6 hk)
    rw [hk] at c0
    clear hk
    go_wp2
    go_ret
    exact ⟨by rw [HRV.out, ← HE.out]; rfl, HB.out⟩
  · have HE := hid (rL_7 hk)
    rw [hk] at c0
    clear hk
    go_wp2
    go_ret
    exact ⟨by rw [HRV.out, ← HE.out]; rfl, HB.out⟩
  · have HE := hid (rL_8 hk)
    rw [hk] at c0
    clear hk
    have q1 : ¬ (9223372036854775807 < 6 + o.nm.size) := by omega
    have q2 : ¬ (9223372036854775807 < 6 + o.nm.size + 1) := by omega
    have q3 : ¬ (9223372036854775807 < 6 + o.nm.size + 1 + (itoaB o.fr).size) := by omega
    have q4 : ¬ (9223372036854775807 < 6 + o.nm.size + 1 + (itoaB o.fr).size + 1) := by omega
    have q5 : ¬ (9223372036854775807 < 6 + o.nm.size + 1 + (itoaB o.fr).size + 1 + (hexL o.da).length) := by
      have : (hexL o.da).length ≤ 1024 := n5
      omega
    go_wp2_with fail
    refine wp_region_held_drew (S := (fun W => W.cell? ⟨w.heap.size, 1, none⟩ = some (.string o.nm) ∧ W.cell? ⟨w.heap.size, 5, none⟩ = some (.slice a o.da.length c))) (by kernel_rfl) ⟨c1, c5⟩ (fun hSS => ?_)
    refine wpAnyH_take (i := 0) (oi := ({ dst := some 72, op := Op.fieldAddr 29 (Operand.tmp 1) 1, type := 0, pos := _, after := _, guard := none } : Oper)) (v := ?_) rfl (by kernel_rfl) (by kernel_rfl) (by kernel_rfl) (fun _ _ _ h => h) (Or.inl ⟨by rfl, ?_⟩) hSS ?_
    rotate_left
    · intro w9 hSw
      (try dsimp only at hSw)
      (try go_split_ands)
      first | (go_simp; done) | (go_simp; with_reducible rfl)
    try simp only [Act.put, List.setIfInBounds_toArray, List.set_cons_zero, List.set_cons_succ]
    refine wpAnyH_take (i := 1) (oi := ({ dst := some 73, op := Op.load 9 (Operand.tmp 72), type := 9, pos := _, after := _, guard := none } : Oper)) (v := ?_) rfl (by kernel_rfl) (by kernel_rfl) (by kernel_rfl) (fun _ _ _ h => h) (Or.inl ⟨by rfl, ?_⟩) hSS ?_
    rotate_left
    · intro w9 hSw
      (try dsimp only at hSw)
      (try go_split_ands)
      first | (go_simp; done) | (go_simp; with_reducible rfl)
    try simp only [Act.put, List.setIfInBounds_toArray, List.set_cons_zero, List.set_cons_succ]
    refine wpAnyH_take (i := 2) (oi := ({ dst := some 74, op := Op.binOp BinOp.add 9 (Operand.const (Value.string { data := #[119, 114, 105, 116, 101, 32] })) (Operand.tmp 73) 9, type := 9, pos := _, after := _, guard := none } : Oper)) (v := ?_) rfl (by kernel_rfl) (by kernel_rfl) (by kernel_rfl) (fun _ _ _ h => h) (Or.inl ⟨by rfl, ?_⟩) hSS ?_
    rotate_left
    · intro w9 hSw
      (try dsimp only at hSw)
      (try go_split_ands)
      first | (go_simp; done) | (go_simp; with_reducible rfl)
    try simp only [Act.put, List.setIfInBounds_toArray, List.set_cons_zero, List.set_cons_succ]
    refine wpAnyH_take (i := 3) (oi := ({ dst := some 75, op := Op.binOp BinOp.add 9 (Operand.tmp 74) (Operand.const (Value.string { data := #[32] })) 9, type := 9, pos := _, after := _, guard := none } : Oper)) (v := ?_) rfl (by kernel_rfl) (by kernel_rfl) (by kernel_rfl) (fun _ _ _ h => h) (Or.inl ⟨by rfl, ?_⟩) hSS ?_
    rotate_left
    · intro w9 hSw
      (try dsimp only at hSw)
      (try go_split_ands)
      first | (go_simp; done) | (go_simp; with_reducible rfl)
    try simp only [Act.put, List.setIfInBounds_toArray, List.set_cons_zero, List.set_cons_succ]
    refine wpAnyH_take (i := 4) (oi := ({ dst := some 76, op := Op.move (Operand.tmp 3), type := 9, pos := _, after := _, guard := none } : Oper)) (v := ?_) rfl (by kernel_rfl) (by kernel_rfl) (by kernel_rfl) (fun _ _ _ h => h) (Or.inl ⟨by rfl, ?_⟩) hSS ?_
    rotate_left
    · intro w9 hSw
      (try dsimp only at hSw)
      (try go_split_ands)
      first | (go_simp; done) | (go_simp; with_reducible rfl)
    try simp only [Act.put, List.setIfInBounds_toArray, List.set_cons_zero, List.set_cons_succ]
    refine wpAnyH_take (i := 5) (oi := ({ dst := some 77, op := Op.binOp BinOp.add 9 (Operand.tmp 75) (Operand.tmp 76) 9, type := 9, pos := _, after := _, guard := none } : Oper)) (v := ?_) rfl (by kernel_rfl) (by kernel_rfl) (by kernel_rfl) (fun _ _ _ h => h) (Or.inl ⟨by rfl, ?_⟩) hSS ?_
    rotate_left
    · intro w9 hSw
      (try dsimp only at hSw)
      (try go_split_ands)
      first | (go_simp; done) | (go_simp; with_reducible rfl)
    try simp only [Act.put, List.setIfInBounds_toArray, List.set_cons_zero, List.set_cons_succ]
    refine wpAnyH_take (i := 6) (oi := ({ dst := some 78, op := Op.binOp BinOp.add 9 (Operand.tmp 77) (Operand.const (Value.string { data := #[32] })) 9, type := 9, pos := _, after := _, guard := none } : Oper)) (v := ?_) rfl (by kernel_rfl) (by kernel_rfl) (by kernel_rfl) (fun _ _ _ h => h) (Or.inl ⟨by rfl, ?_⟩) hSS ?_
    rotate_left
    · intro w9 hSw
      (try dsimp only at hSw)
      (try go_split_ands)
      first | (go_simp; done) | (go_simp; with_reducible rfl)
    try simp only [Act.put, List.setIfInBounds_toArray, List.set_cons_zero, List.set_cons_succ]
    refine wpAnyH_take (i := 7) (oi := ({ dst := some 79, op := Op.fieldAddr 29 (Operand.tmp 1) 5, type := 0, pos := _, after := _, guard := none } : Oper)) (v := ?_) rfl (by kernel_rfl) (by kernel_rfl) (by kernel_rfl) (fun _ _ _ h => h) (Or.inl ⟨by rfl, ?_⟩) hSS ?_
    rotate_left
    · intro w9 hSw
      (try dsimp only at hSw)
      (try go_split_ands)
      first | (go_simp; done) | (go_simp; with_reducible rfl)
    try simp only [Act.put, List.setIfInBounds_toArray, List.set_cons_zero, List.set_cons_succ]
    refine wpAnyH_take (i := 8) (oi := ({ dst := some 80, op := Op.load 23 (Operand.tmp 79), type := 23, pos := _, after := _, guard := none } : Oper)) (v := ?_) rfl (by kernel_rfl) (by kernel_rfl) (by kernel_rfl) (fun _ _ _ h => h) (Or.inl ⟨by rfl, ?_⟩) hSS ?_
    rotate_left
    · intro w9 hSw
      (try dsimp only at hSw)
      (try go_split_ands)
      first | (go_simp; done) | (go_simp; with_reducible rfl)
    try simp only [Act.put, List.setIfInBounds_toArray, List.set_cons_zero, List.set_cons_succ]
    refine wpAnyH_ready (rs := [9]) (by kernel_rfl) (by simp) (AllReadyH.cons (o := ({ dst := some 81, op := Op.call { callee := Callee.value (Operand.func 92), args := #[Operand.tmp 80], argTypes := #[23] }, type := 9, pos := _, after := _, guard := none } : Oper)) rfl (fun K9 hK9 => ?_) AllReadyH.nil)
    go_simp
    go_at_call 92
    refine H92.out.mono ?_
    rintro e w3 ⟨rfl, hb3⟩
    refine hK9.out _ _ hb3.2 (fun hSS => ?_)
    clear hK9 K9
    try simp only [Act.put, List.setIfInBounds_toArray, List.set_cons_zero, List.set_cons_succ]
    refine wpAnyH_take (i := 10) (oi := ({ dst := some 82, op := Op.binOp BinOp.add 9 (Operand.tmp 78) (Operand.tmp 81) 9, type := 9, pos := _, after := _, guard := none } : Oper)) (v := ?_) rfl (by kernel_rfl) (by kernel_rfl) (by kernel_rfl) (fun _ _ _ h => h) (Or.inl ⟨by rfl, ?_⟩) hSS ?_
    rotate_left
    · intro w9 hSw
      (try dsimp only at hSw)
      (try go_split_ands)
      first | (go_simp; done) | (go_simp; with_reducible rfl)
    try simp only [Act.put, List.setIfInBounds_toArray, List.set_cons_zero, List.set_cons_succ]
    refine wpAnyH_take (i := 11) (oi := ({ dst := some 2, op := Op.assign (Operand.tmp 82), type := 9, pos := _, after := _, guard := none } : Oper)) (v := ?_) rfl (by kernel_rfl) (by kernel_rfl) (by kernel_rfl) (fun _ _ _ h => h) (Or.inl ⟨by rfl, ?_⟩) hSS ?_
    rotate_left
    · intro w9 hSw
      (try dsimp only at hSw)
      (try go_split_ands)
      first | (go_simp; done) | (go_simp; with_reducible rfl)
    try simp only [Act.put, List.setIfInBounds_toArray, List.set_cons_zero, List.set_cons_succ]
    refine wpAnyH_done (by kernel_rfl) ?_ _
    go_wp2_with fail
    go_wp2
    go_ret
    exact ⟨by rw [HRV.out, ← HE.out]; rfl, hb3.1⟩
  · have HE := hid (rL_9 hk)
    rw [hk] at c0
    clear hk
    go_wp2
    go_ret
    exact ⟨by rw [HRV.out, ← HE.out]; rfl, HB.out⟩
  · have HE := hid (rL_10 hk)
    rw [hk] at c0
    clear hk
    go_wp2
    go_ret
    exact ⟨by rw [HRV.out, ← HE.out]; rfl, HB.out⟩
  · have HE := hid (rL_11 hk)
    rw [hk] at c0
    clear hk
    go_wp2
    go_ret
    exact ⟨by rw [HRV.out, ← HE.out]; rfl, HB.out⟩

end Go.Proofs.YthkkdmblkalknaaGreatDoor
/-
  The document's Print; Print whatever the list.
-/
namespace Go.Proofs.YthkkdmblkalknaaGreatDoor
open Go.RowKit

set_option maxRecDepth 100000 in
set_option maxHeartbeats 4000000 in
theorem Print_all (x : Option Addr) (c : Nat) (os : List PO) (w : World) (hl : os.length ≤ 16777216) (hz : ckA os = 0 → (prtL os).length ≤ 1073741824) (hG : GT w) (hR : RdO w.heap.size w x os) :
    Calls Tryz.prog 15 #[.slice x os.length c] w fun e w' => e = .returned (.tuple #[.string (if ckA os = 0 then ⟨(prtL os).toArray⟩ else ⟨#[]⟩), .int .i64 (ckA os)]) ∧ Below w.heap.size w w' := by
  by_cases h0 : ckA os = 0
  · exact Print_any x c os w hl (hz h0) hG hR
  have H38 := hid (checkAll_any x c os w hl hG hR)
  rw [if_neg h0]
  generalize hE : ckA os = E at *
  have hq : (E != 0) = true := by simpa using h0
  clear hE hG hR hz h0
  go_enter Tryz.func15, Tryz.ntmps15
  go_wp2_with fail
  refine H38.out.mono ?_
  rintro e w1 ⟨rfl, hb⟩
  have HB := hid hb
  clear hb H38
  go_wp2
  go_ret2
  exact ⟨rfl, HB.out⟩

theorem lineB_rL (o : PO) : lineB o = rL o ++ ⟨#[10]⟩ := rfl
/-- the text of the first ones -/
def prtB (os : List PO) : ByteArray := ⟨(prtL os).toArray⟩
theorem prtB_snoc (os : List PO) (o : PO) : prtB os ++ rL o ++ ⟨#[10]⟩ = prtB (os ++ [o]) := by
  apply ba_ext
  rw [ba_app, ba_app]
  show (prtL os) ++ (rL o).data.toList ++ [10] = prtL (os ++ [o])
  unfold prtL
  rw [List.flatMap_append]
  have e : lineL o = (rL o).data.toList ++ [10] := by
    unfold lineL
    rw [lineB_rL, ba_app]
  simp [e, List.append_assoc]
set_option maxRecDepth 100000 in
set_option maxHeartbeats 4000000 in
theorem rPrint_any (x : Option Addr) (c : Nat) (os : List PO) (w : World) (hl : os.length ≤ 16777216) (hz : ∀ r, r ≤ os.length → (∀ o ∈ os.take r, o.ck = 0) → (prtL (os.take r)).length ≤ 1073741824) (hG : GT w) (hR : RdO w.heap.size w x os) :
    Calls Tryz.prog 51 #[.slice x os.length c] w fun e w' => e = .returned (.tuple #[.string (if ckA os = 0 then ⟨(prtL os).toArray⟩ else ⟨#[]⟩), .int .i64 (ckA os)]) ∧ Below w.heap.size w w' := by
  have HG := hid hG
  have HR := hid hR
  have HZ := hid hz
  obtain ⟨PO, hPO⟩ : ∃ PO : Ending → World → Prop, PO = fun e w' => e = .returned (.tuple #[.string (if ckA os = 0 then ⟨(prtL os).toArray⟩ else ⟨#[]⟩), .int .i64 (ckA os)]) ∧ Below w.heap.size w w' := ⟨_, rfl⟩
  have HPO := hid hPO
  rw [← hPO]
  clear hG hR hz hPO
  go_enter Tryz.func51, Tryz.ntmps51
  go_wp2_with fail
  go_loopw [4, 5] (fun s i wr => ∃ r : Nat, r ≤ os.length ∧ i = .int .i64 (r : Int) ∧ s = .string (prtB (os.take r)) ∧ Below w.heap.size w wr ∧ ∀ j (hj : j < os.length), j < r → (os[j]'hj).ck = 0) (fun _ i _ => os.length - (intOf i).toNat)
  case atStart => exact ⟨0, Nat.zero_le _, rfl, rfl, Below.refl _ _, fun j _ hj => by omega⟩
  case round =>
    obtain ⟨r, hr, rfl, rfl, hb, hall⟩ := hrel
    by_cases hlt : r < os.length
    · have hR2 := HR.out.below hb
      have hok := hR2.1 (os[r]'hlt) (List.getElem_mem hlt)
      obtain ⟨b, off, rfl, hbl, hc⟩ := hR2.2.resolve_left (fun e => by rw [e] at hlt; simp at hlt)
      obtain ⟨a, cp, hop, hRd, _⟩ := hc r hlt
      have hr1 : (r : Int) < (os.length : Int) := by omega
      have hcnd : ∀ h : (os[r]'hlt).ck ≠ 0, ckA os = (os[r]'hlt).ck := fun h => ckA_hit hlt (fun j hj => hall j (by omega) hj) h
      have htk : os.take (r + 1) = os.take r ++ [os[r]'hlt] := List.take_succ_eq_append_getElem hlt
      have hck : ∀ h : (os[r]'hlt).ck = 0, ∀ o ∈ os.take (r + 1), o.ck = 0 := by
        intro h o ho
        obtain ⟨t, ht, rfl⟩ := List.getElem_of_mem ho
        rw [List.length_take] at ht
        rw [List.getElem_take]
        by_cases e : t = r
        · subst e; exact h
        · exact hall t (by omega) (by omega)
      have H48 : Hid (Calls Tryz.prog 48 #[.agg #[.int .i64 (os[r]'hlt).k, .string (os[r]'hlt).nm, .string (os[r]'hlt).ot, .int .i64 (os[r]'hlt).fr, .int .i64 (os[r]'hlt).to, .slice a (os[r]'hlt).da.length cp]] wr fun e w4 => e = .returned (.int .i64 (os[r]'hlt).ck) ∧ OpC w4 b (off + r * 6) (os[r]'hlt) a cp ∧ Below w.heap.size w w4 ∧
          ((os[r]'hlt).ck = 0 → Calls Tryz.prog 56 #[.agg #[.int .i64 (os[r]'hlt).k, .string (os[r]'hlt).nm, .string (os[r]'hlt).ot, .int .i64 (os[r]'hlt).fr, .int .i64 (os[r]'hlt).to, .slice a (os[r]'hlt).da.length cp]] w4 fun e w5 => e = .returned (.string (rL (os[r]'hlt))) ∧ Below w.heap.size w w5)) := by
        refine (rCheck_any (os[r]'hlt).k (os[r]'hlt).nm (os[r]'hlt).ot (os[r]'hlt).fr (os[r]'hlt).to a (os[r]'hlt).da.length cp wr hok.nm hok.ot hok.f0 hok.t1).mono ?_
        rintro e w4 ⟨rfl, b4⟩
        have b4' := hb.trans (b4.mono hb.size)
        refine ⟨rfl, hop.keep (b4.block b (Nat.lt_of_lt_of_le hbl hb.size)), b4', fun h0 => (rLine_any (os[r]'hlt) a cp w4 (HG.out.next b4') h0 hok (((hRd.mono hb.size).below b4).mono b4.size)).mono ?_⟩
        rintro e w5 ⟨rfl, b5⟩
        exact ⟨rfl, b4'.trans (b5.mono b4'.size)⟩
      obtain ⟨c0, c1, c2, c3, c4, c5⟩ := hop
      have HCN := hid hcnd
      have HCK := hid hck
      have HAL := hid hall
      have HTK := hid htk
      generalize hO : os[r]'hlt = o at *
      have HO := hid hO
      clear hc hR2 hcnd hall hb hok hO htk hck hRd hbl
      generalize hE : o.ck = E at *
      have HE := hid hE
      clear hE
      go_wp2_with fail
      refine H48.out.mono ?_
      rintro e w4 ⟨rfl, ⟨d0, d1, d2, d3, d4, d5⟩, hb4, h56⟩
      clear c0 c1 c2 c3 c4 c5 H48
      by_cases hE0 : E = 0
      · have H56 := hid (h56 hE0)
        have HA : Hid (∀ j (hj : j < os.length), j < r + 1 → (os[j]'hj).ck = 0) := fun j hj hjr => by
          by_cases e : j = r
          · subst e
            rw [HO.out, HE.out]
            exact hE0
          · exact HAL.out j hj (by omega)
        have hbig := HZ.out (r + 1) (by omega) (HCK.out hE0)
        have hpb : (prtB (os.take r)).size + (rL o).size + 1 ≤ 1073741824 := by
          have e := congrArg ByteArray.size (prtB_snoc (os.take r) o)
          rw [← HTK.out] at e
          have e2 : (prtB (os.take (r + 1))).size = (prtL (os.take (r + 1))).length := rfl
          rw [ByteArray.size_append, ByteArray.size_append] at e
          have e3 : (⟨#[10]⟩ : ByteArray).size = 1 := rfl
          omega
        have HPS := hid (prtB_snoc (os.take r) o)
        rw [← HTK.out] at HPS
        subst hE0
        clear h56 hbig HAL HCN HCK HTK hb4
        generalize prtB (os.take r) = pb at *
        generalize rL o = lb at *
        go_wp2_with fail
        refine H56.out.mono ?_
        rintro e w5 ⟨rfl, hb5⟩
        have HB5 := hid hb5
        clear H56 hb5 d0 d1 d2 d3 d4 d5
        go_wp2
        go_roundw
        case rel => exact ⟨r + 1, by omega, by go_num, by rw [HPS.out], HB5.out, HA.out⟩
        case measure => simp [intOf]; omega
      · have hq : (E != 0) = true := by simpa using hE0
        have HF : Hid (PO (.returned (.tuple #[.string ⟨#[]⟩, .int .i64 E])) w4) := by
          show PO _ _
          rw [HPO.out, HCN.out hE0, if_neg hE0]
          exact ⟨rfl, hb4⟩
        clear h56 hE0 hb4 HAL HCN HCK HTK HPO
        go_wp2
        exact HF.out
    · have e : r = os.length := by omega
      subst e
      have HF : Hid (PO (.returned (.tuple #[.string (prtB (os.take os.length)), .int .i64 0])) wr) := by
        show PO _ _
        have h0 := ckA_all (fun j hj => hall j hj (by omega))
        rw [HPO.out, h0, if_pos rfl, List.take_length]
        exact ⟨rfl, hb⟩
      clear hb hall HPO
      go_wp2
      exact HF.out

end Go.Proofs.YthkkdmblkalknaaGreatDoor
