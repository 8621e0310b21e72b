import Derived.Test.YtldlejpacgphmabGreatG28
import Derived.Test.YtldlejpacgphmabGreatG22
namespace Go.Proofs.YtldlejpacgphmabGreat
open Go.RowKit
theorem behind_any (i : Nat) (w : World) (hi : i ≤ 4294967296) : Calls Tryz.prog 153 #[.int .i64 (i : Int)] w fun e w' => e = .returned (.agg #[.int .i64 (-7 - (i : Int)), .slice none 0 0]) ∧ Below w.heap.size w w' := by
 have hw : IntKind.i64.wrap (-7 - (i : Int)) = -7 - (i : Int) := by rw [IntKind.wrap_i64]; omega
 go_enter Tryz.func153, Tryz.ntmps153
 go_wp2
 exact bodyPost_ret (v := .agg #[.int .i64 (-7 - (i : Int)), .slice none 0 0]) (by simp [results, Tryz.results153, go_sem]) rfl ⟨rfl, (Below.refl _ _).alloc (Nat.le_refl _) _⟩
def bhd (r : Nat) : List Value := (List.range r).flatMap fun (i : Nat) => [.int .i64 (-7 - (i : Int)), .slice none 0 0]
theorem bhd_succ (r : Nat) : bhd (r + 1) = bhd r ++ [.int .i64 (-7 - (r : Int)), .slice none 0 0] := by simp [bhd, List.range_succ]
theorem length_bhd (r : Nat) : (bhd r).length = r * 2 := by
 induction r with
 | zero => rfl
 | succ r ih => rw [bhd_succ, List.length_append, ih]; simp; omega
theorem one_pmCells (qs : List Pm) : ∀ u ∈ pmCells qs, u.oneCell' = true := fun u hu => by
 unfold pmCells at hu
 obtain ⟨p, _, hp⟩ := List.mem_flatMap.1 hu
 simp at hp
 rcases hp with rfl | rfl <;> rfl
theorem one_bhd (r : Nat) : ∀ u ∈ bhd r, u.oneCell' = true := fun u hu => by
 unfold bhd at hu
 obtain ⟨p, _, hp⟩ := List.mem_flatMap.1 hu
 simp at hp
 rcases hp with rfl | rfl <;> rfl
def LendP (w : World) (wb p c : Nat) (jv : Value) (g : Nat) (rm lasted : Int) (off trying : Bool) (tried tl td : Value) (Ls : List Ln) (ps : List Pm) (e : Ending) (w' : World) : Prop :=
 ∃ lb lc n1 cs td' Ls' qs, e = .returned (.slice (some ⟨lb, 0, none⟩) ps.length lc) ∧ Wb w' wb p c jv g rm lasted off trying tried (.slice (some ⟨lb, 0, none⟩) n1 lc) td' ∧ Tr w' td' Ls' (ps.map Pm.data) ∧ LentP Ls' ps qs ∧ w'.ownsRow 0 97 2 (.slice (some ⟨lb, 0, none⟩) n1 lc) n1 ((pmCells qs ++ bhd (ps.length + 70)) ++ cs) ∧ n1 ≤ 2147483648 ∧ (tl.ownBlock = some lb ∨ w.heap.size ≤ lb) ∧ ¬ TrB td' Ls' lb ∧ But (fun k => k = wb ∨ TrB td Ls k ∨ tl.ownBlock = some k) w w' ∧ (∀ k, k < w.heap.size → TrB td' Ls' k → TrB td Ls k) ∧ Ls'.length ≤ 1073741823
theorem row_set {w : World} {lb n lc : Nat} {xs cs : List Value} (h : w.ownsRow 0 97 2 (.slice (some ⟨lb, 0, none⟩) n lc) n xs) (hc : cs.length ≤ n * 2) : ∃ cur, w.heap[lb]? = some (.cells cur 97 (0, 0)) ∧ cs.length ≤ cur.size ∧ (w.setRow lb (cs ++ cur.toList.drop cs.length).toArray).ownsRow 0 97 2 (.slice (some ⟨lb, 0, none⟩) n lc) n (cs ++ xs.drop cs.length) := by
 obtain ⟨h1, h2⟩ := h
 rcases h2 with ⟨e, _⟩ | ⟨g, cap, cur, e, _, hg, q1, q2, q3, q4⟩
 ·simp at e
 ·simp only [Value.slice.injEq, Option.some.injEq, Addr.mk.injEq] at e
  obtain ⟨⟨rfl, _⟩, _, rfl⟩ := e
  have hcc : cs.length ≤ cur.size := by omega
  refine ⟨cur, hg, hcc, ?_, .inr ⟨lb, lc, (cs ++ cur.toList.drop cs.length).toArray, rfl, Nat.zero_le _, setRow_heap w lb cur _ 97 _ hg, q1, q2, ?_, ?_⟩⟩
  ·rw [List.length_append, List.length_drop, h1]
   omega
  ·simp
   omega
  ·rw [← q4]
   simp only [List.take_append, List.drop_take]
   rw [List.take_of_length_le hc]
theorem lend_done {w wr wt w5 : World} {B0 wb p c : Nat} {jv : Value} {g : Nat} {rm lasted : Int} {off trying : Bool} {tried tl td : Value} {Ls : List Ln} {ps : List Pm} {fa : Option Addr} {fc : Nat} {td' : Value} {Ls' : List Ln} {qs : List Pm} {lb lc n1 : Nat} {cs : List Value} (h : Lq B0 w wr wb p c jv g rm lasted off trying tried tl td Ls ps ps.length fa fc td' Ls' qs) (hB : w.heap.size ≤ B0) (hwl : wb < w.heap.size) (hwT : ¬ TrB td Ls wb) (hbt : But (fun k => (Value.slice fa ps.length fc).ownBlock = some k) wr wt) (hb5 : But (fun k => k = wb ∨ k = lb) wt w5) (hwd : Wb w5 wb p c jv g rm lasted off trying tried (.slice (some ⟨lb, 0, none⟩) n1 lc) td')
  (hrow : w5.ownsRow 0 97 2 (.slice (some ⟨lb, 0, none⟩) n1 lc) n1 ((pmCells qs ++ bhd (ps.length + 70)) ++ cs)) (hn1 : n1 ≤ 2147483648) (hlb : tl.ownBlock = some lb ∨ wr.heap.size ≤ lb) (hlT : tl.ownBlock = some lb → ¬ TrB td Ls lb ∧ lb < w.heap.size) :
  LendP w wb p c jv g rm lasted off trying tried tl td Ls ps (.returned (.slice (some ⟨lb, 0, none⟩) ps.length lc)) w5 := by
 have hs := h.bt.size
 have hfr : ∀ k, (Value.slice fa ps.length fc).ownBlock = some k → B0 ≤ k ∧ k < wr.heap.size := fun k e => World.ownsRow.lt h.row k e
 have hnb : ¬ TrB td' Ls' lb := fun r => by
  rcases hlb with e | e
  ·exact (hlT e).1 (h.gr lb (hlT e).2 r)
  ·have := h.tr.lt r
   omega
 have hwn : ¬ TrB td' Ls' wb := fun q => hwT (h.gr wb hwl q)
 have htr : Tr w5 td' Ls' (ps.map Pm.data) := by
  have h1 := h.tr
  rw [List.take_of_length_le (Nat.le_refl _)] at h1
  refine (h1.but hbt (fun k _ r e => h.nf k e r)).but hb5 (fun k _ r e => ?_)
  rcases e with e | e
  ·exact hwn (by rw [← e]; exact r)
  ·exact hnb (by rw [← e]; exact r)
 have hlp := h.lp
 rw [List.take_of_length_le (Nat.le_refl _)] at hlp
 refine ⟨lb, lc, n1, cs, td', Ls', qs, rfl, hwd, htr, hlp, hrow, hn1, hlb.imp id (fun e => by omega), hnb, ?_, h.gr, h.nl⟩
 have b1 : But (fun k => k = wb ∨ TrB td Ls k ∨ tl.ownBlock = some k) w wr := h.bt.mono (fun k _ r => r.elim .inl (fun r => .inr (.inl r)))
 have b2 := b1.comp hbt (fun k hk e => by have := (hfr k e).1; omega)
 refine b2.comp hb5 (fun k hk e => ?_)
 rcases e with e | e
 ·exact .inl e
 ·rcases hlb with r | r
  ·exact .inr (.inr (by rw [e]; exact r))
  ·omega
set_option maxRecDepth 100000 in
set_option maxHeartbeats 4000000 in
theorem lend_any {w : World} {wb p c : Nat} {jv : Value} {g : Nat} {rm lasted : Int} {off trying : Bool} {tried tl td : Value} {Ls : List Ln} (hW : Wb w wb p c jv g rm lasted off trying tried tl td) (hT : Tr w td Ls []) (hwT : ¬ TrB td Ls wb) (hnl : Ls.length ≤ 1073741823) {n0 : Nat} {cs0 : List Value} (hl0 : w.ownsRow 0 97 2 tl n0 cs0) (hn0 : n0 ≤ 2147483648) (hlT : ∀ k, tl.ownBlock = some k → ¬ TrB td Ls k ∧ k ≠ wb) (a0 : Option Addr) (cp : Nat) (ps : List Pm) (hR : RdP (fun k => k = wb ∨ TrB td Ls k) w a0 ps) (hN : ps.length ≤ 536870912) (hd : ∀ p ∈ ps, p.data.length ≤ 16777216) :
  Calls Tryz.prog 102 #[.pointer (some ⟨wb, 9, none⟩), .slice a0 ps.length cp] w (LendP w wb p c jv g rm lasted off trying tried tl td Ls ps) := by
 obtain ⟨i68, hi68, hz68, hs68, hb68⟩ := info_parts info68
 obtain ⟨i158, hi158, hz158, hs158, hb158⟩ := info_parts info158
 have hwl := hW.lt
 have h0 : Lq w.heap.size w w wb p c jv g rm lasted off trying tried tl td Ls ps 0 none 0 td Ls [] := ⟨hW, by simpa using hT, World.ownsRow_nil _ _ _ _, ⟨rfl, fun i p hi => by simp at hi⟩, But.refl _ _, fun _ _ q => q, (fun k e => by cases e), hnl⟩
 have H0 := hid h0
 obtain ⟨PO, hPO⟩ : ∃ PO : Ending → World → Prop, PO = LendP w wb p c jv g rm lasted off trying tried tl td Ls ps := ⟨_, rfl⟩
 rw [← hPO]
 have HPO := hid hPO
 clear hPO
 obtain ⟨la, lc0, htl, _⟩ := owns_slice hl0
 have HTL := hid htl
 have HL0 := hid (And.intro hl0 hlT)
 clear hl0 hlT htl
 have HR := hid hR
 have HD := hid hd
 have HWT := hid hwT
 obtain ⟨B0, hB0⟩ : ∃ B0, B0 = w.heap.size := ⟨_, rfl⟩
 have HB0 := hid hB0
 rw [← hB0] at H0
 clear hW hT h0 hR hd hwT hB0
 obtain ⟨N, hNe⟩ : ∃ N, N = ps.length := ⟨_, rfl⟩
 rw [← hNe] at hN ⊢
 have HN := hid hNe
 clear hNe
 go_enter Tryz.func102, Tryz.ntmps102
 go_wp2_with fail
 go_loopw [5, 6] (fun ov iv wr => ∃ (q : Nat) (fa : Option Addr) (fc : Nat) (td' : Value) (Ls' : List Ln) (qs : List Pm), q ≤ N ∧ iv = .int .i64 (q : Int) ∧ ov = .slice fa q fc ∧ Lq B0 w wr wb p c jv g rm lasted off trying tried tl td Ls ps q fa fc td' Ls' qs) (fun _ iv _ => N - (intOf iv).toNat)
 case atStart => exact ⟨0, none, 0, td, Ls, [], Nat.zero_le _, rfl, rfl, H0.out⟩
 case round =>
  clear H0
  obtain ⟨q, fa, fc, td', Ls', qs, hqN, rfl, rfl, hQ⟩ := hrel
  by_cases hq : q < N
  ·have hq' : (q : Int) < (N : Int) := by omega
   obtain ⟨pp, hpp⟩ : ∃ pp, ps[q]? = some pp := ⟨_, List.getElem?_eq_getElem (by have := HN.out; omega)⟩
   have hpd := HD.out pp (List.mem_of_getElem? hpp)
   have HPP := hid hpp
   clear hpp
   have hnlq := hQ.nl
   have hqle := hQ.le (by have := HN.out; omega)
   obtain ⟨da, dc0, hde, _⟩ := owns_slice hQ.tr.row
   subst hde
   have c10 : wr.cell? ⟨wb, 10, none⟩ = some (.slice da Ls'.length dc0) := hQ.wd.cell 10
   by_cases hpush : Ls'.length ≤ q
   ·have hnl1 : Ls'.length + 1 ≤ 1073741823 := by omega
    have hwlr : wb < wr.heap.size := Nat.lt_of_lt_of_le hwl hQ.bt.size
    have d10 : ((wr.alloc (.cells #[.slice none 0 0, .int .i64 0] 78)).alloc (.cells #[.pointer (some ⟨wr.heap.size, 0, none⟩)] 233)).cell? ⟨wb, 10, none⟩ = some (.slice da Ls'.length dc0) := (World.cell?_alloc_past _ _ _ (by simp; omega)).trans ((World.cell?_alloc_past _ _ _ hwlr).trans c10)
    have hown : (Value.slice da Ls'.length dc0).ownBlock ≠ some wb := fun e => HWT.out (hQ.gr wb hwl (.inl e))
    have hfz := hQ.wd.frozen 10
    have HRw := hid (owns_below hQ.tr.row ((Below.refl wr.heap.size wr).alloc (Nat.le_refl _) (.cells #[.slice none 0 0, .int .i64 0] 78) |>.alloc (by simp) (.cells #[.pointer (some ⟨wr.heap.size, 0, none⟩)] 233)))
    have HNW : Hid (∀ j u, [Value.pointer (some ⟨wr.heap.size, 0, none⟩)][j]? = some u → ((wr.alloc (.cells #[.slice none 0 0, .int .i64 0] 78)).alloc (.cells #[.pointer (some ⟨wr.heap.size, 0, none⟩)] 233)).cell? ((⟨wr.heap.size + 1, 0, none⟩ : Addr).add j) = some u) := by
     have hn := newsI1 (wr.alloc (.cells #[.slice none 0 0, .int .i64 0] 78)) (.pointer (some ⟨wr.heap.size, 0, none⟩)) 233
     have hz : (wr.alloc (.cells #[.slice none 0 0, .int .i64 0] 78)).heap.size = wr.heap.size + 1 := by simp
     rw [hz] at hn
     exact hn
    have HQ := hid hQ
    clear hQ
    obtain ⟨dn, hdn⟩ : ∃ dn, dn = Ls'.length := ⟨_, rfl⟩
    rw [← hdn] at c10 d10 hown HRw hpush hnlq hnl1
    have HDN := hid hdn
    clear hdn
    have hp1 : (dn : Int) ≤ (q : Int) := by omega
    go_wp2_with (at_builtin; refine wpList_append_lies _ rfl _ _ _ rfl 0 233 i158 (.pointer none) 1 8 Tryz.underlying46 hi158 hz158 hs158 hb158 rfl (by decide) _ dn _ rfl (by exact HRw.out) ⟨wr.heap.size + 1, 0, none⟩ 1 1 [.pointer (some ⟨wr.heap.size, 0, none⟩)] rfl rfl (by exact HNW.out) (by intro u hu; simp at hu; subst hu; rfl) (by decide) (by unfold maxLen; omega) (by omega) (by simp) (wr.heap.size + 1 + 1) (by simp) ?_; intro g4 cap4 w6 ho4 hg4 hlie4 _; have HO4 := hid (And.intro ho4 (And.intro hg4 hlie4)); have k10 : w6.cell? ⟨wb, 10, none⟩ = some (.slice da dn dc0) := (World.cell?_of_block (hg4.block wb (by simp; omega) (fun e => hown e.symm))).trans d10; have kf : w6.frozen? ⟨wb, 10, none⟩ = false := (World.frozen?_of_block (a := ⟨wb, 10, none⟩) (hg4.block wb (by simp; omega) (fun e => hown e.symm))).trans ((World.frozen?_of_block (a := ⟨wb, 10, none⟩) ((Below.heap_alloc _ _ _ (by simp; omega)).trans (Below.heap_alloc _ _ _ hwlr))).trans hfz); obtain ⟨w7, hw7⟩ : ∃ w7, w7 = w6.setCell ⟨wb, 10, none⟩ (.slice (some ⟨g4, 0, none⟩) (dn + 1) cap4) := ⟨_, rfl⟩; have HW7 := hid hw7; clear ho4 hg4 hlie4 hw7)
    rw [← HW7.out]
    have hQ7 : Lq B0 w w7 wb p c jv g rm lasted off trying tried tl td Ls ps q fa fc (.slice (some ⟨g4, 0, none⟩) (Ls'.length + 1) cap4) (Ls' ++ [(wr.heap.size, none)]) qs := by
     have e := HDN.out
     have hO := HO4.out
     rw [HW7.out, e]
     rw [e] at hO hnl1
     exact Lq.push HQ.out (by rw [HB0.out]; exact Nat.le_refl _) hwl HWT.out hnl1 hO.1 hO.2.1 hO.2.2
    clear HO4 k10 kf d10 c10 HRw hown hfz HQ hp1
    obtain ⟨tb, dc, L, o, pb, po, etd, eLq, rfl, e10, eL, e0, e1, hld, hn1, hn2, hn3, hfn, hff⟩ := hQ7.ready (by rw [HB0.out]; exact Nat.le_refl _) hwl HWT.out HPP.out (by simp; omega) HR.out hpd
    have hs7 : B0 ≤ w7.heap.size := by rw [HB0.out]; exact hQ7.bt.size
    have HLd := hid hld
    have HRow := hid (owns_below hQ7.row ((Below.refl w7.heap.size w7).drew))
    have HNX : Hid (∀ (w2 w6 : World) (G' g4 cap4 : Nat), LdL w2 L G' pp.data → (o = some G' ∨ w7.drew.heap.size ≤ G') → But (fun x => x = L ∨ o = some x) w7.drew w2 → w6.ownsRow B0 97 2 (.slice (some ⟨g4, 0, none⟩) (q + 1) cap4) (q + 1) (pmCells qs ++ [.int .i64 pp.at_, .slice (some ⟨G', 0, none⟩) pp.data.length (2 * pp.data.length + 70)]) → (w2.alloc (.cells #[.int .i64 pp.at_, .slice (some ⟨G', 0, none⟩) pp.data.length (2 * pp.data.length + 70)] 97)).grownBy w6 (Value.slice fa q fc).ownBlock → ((Value.slice fa q fc).ownBlock = some g4 ∨ g4 = w2.heap.size + 1) → ∃ td' Ls' qs, Lq B0 w w6 wb p c jv g rm lasted off trying tried tl td Ls ps (q + 1) (some ⟨g4, 0, none⟩) cap4 td' Ls' qs) := fun w2 w6 G' g4 cap4 x1 x2 x3 x4 x5 x6 => ⟨_, _, _, hQ7.next (by rw [HB0.out]; exact Nat.le_refl _) hwl HWT.out HPP.out eLq x1 x2 x3 x4 x5 x6⟩
    obtain ⟨dn, hdn⟩ : ∃ dn, dn = (Ls' ++ [((wr.heap.size, none) : Ln)]).length := ⟨_, rfl⟩
    rw [← hdn] at e10
    have hqd : q < dn := by rw [hdn]; simp; omega
    have hqd' : (q : Int) < (dn : Int) := by omega
    obtain ⟨v, hv⟩ : ∃ v, v = pp.at_ := ⟨_, rfl⟩
    obtain ⟨ln, hln⟩ : ∃ ln, ln = pp.data.length := ⟨_, rfl⟩
    obtain ⟨ad, had⟩ : ∃ ad, ad = pp.ad := ⟨_, rfl⟩
    obtain ⟨cp1, hcp1⟩ : ∃ cp1, cp1 = pp.cap := ⟨_, rfl⟩
    rw [← hv] at e0
    rw [← hln, ← had, ← hcp1] at e1 HLd
    rw [← hv, ← hln] at HNX
    clear hQ7 hld hv hln had hcp1 hdn eLq etd hpd
    go_wp2_with fail
    refine wp_region_noPanic ?_
    refine wp_region_held_drew (S := fun w' => w'.cell? ⟨wb, 10, none⟩ = some (.slice (some ⟨tb, 0, none⟩) dn dc) ∧ w'.cell? ⟨tb, q, none⟩ = some (.pointer (some ⟨L, 0, none⟩)) ∧ w'.cell? ⟨pb, po + q * 2, none⟩ = some (.int .i64 v) ∧ w'.cell? ⟨pb, po + q * 2 + 1, none⟩ = some (.slice ad ln cp1)) (by kernel_rfl) ⟨e10, eL, e0, e1⟩ (fun hSS => ?_)
    refine tk 0 (some 32) (.move (.tmp 5)) 35 none hSS ?_
    refine tk 1 (some 33) (.move (.tmp 1)) 35 none hSS ?_
    refine tk 2 (some 34) (.move (.tmp 6)) 3 none hSS ?_
    refine tk 3 (some 35) (.indexAddr 35 (.tmp 33) (.tmp 34)) 0 none hSS ?_
    try simp only [Act.put, zA, zB, zC]
    refine tk 4 (some 36) (.fieldAddr 97 (.tmp 35) 0) 0 none hSS ?_
    refine tk 5 (some 37) (.load 3 (.tmp 36)) 3 none hSS ?_
    refine tk 6 (some 38) (.move (.tmp 0)) 232 none hSS ?_
    refine tk 7 (some 39) (.nilCheck (.tmp 38)) 0 none hSS ?_
    try simp only [Act.put, zA, zB, zC]
    refine tk 8 (some 40) (.fieldAddr 48 (.tmp 39) 1) 0 none hSS ?_
    refine tk 9 (some 41) (.load 46 (.tmp 40)) 46 none hSS ?_
    refine tk 10 (some 42) (.move (.tmp 6)) 3 none hSS ?_
    refine tk 11 (some 43) (.indexAddr 46 (.tmp 41) (.tmp 42)) 0 none hSS ?_
    try simp only [Act.put, zA, zB, zC]
    refine tk 12 (some 44) (.load 233 (.tmp 43)) 233 none hSS ?_
    refine tk 13 (some 45) (.move (.tmp 1)) 35 none hSS ?_
    refine tk 14 (some 46) (.move (.tmp 6)) 3 none hSS ?_
    refine tk 15 (some 47) (.indexAddr 35 (.tmp 45) (.tmp 46)) 0 none hSS ?_
    try simp only [Act.put, zA, zB, zC]
    refine tk 16 (some 48) (.fieldAddr 97 (.tmp 47) 1) 0 none hSS ?_
    refine tk 17 (some 49) (.load 22 (.tmp 48)) 22 none hSS ?_
    try simp only [Act.put, zA, zB, zC]
    refine wpAnyH_ready (rs := [18]) (by kernel_rfl) (by simp) (AllReadyH.cons (o := ({ dst := some 50, op := Op.call { callee := Callee.value (Operand.func 152), args := #[Operand.tmp 44, Operand.tmp 49], argTypes := #[233, 22] }, type := 22, pos := _, after := _, guard := none } : Oper)) rfl (fun K9 hK9 => ?_) AllReadyH.nil)
    go_simp
    go_at_call 152
    refine Calls.mono HLd.out ?_
    rintro e w2 ⟨G', rfl, hl2, hG2, b2⟩
    have B2 := hid (And.intro hl2 (And.intro hG2 b2))
    have hsz2 : w7.heap.size ≤ w2.heap.size := b2.size
    have f10 := (b2.cell (p := ⟨wb, 10, none⟩) hn1.1 hn1.2).trans e10
    have fL := (b2.cell (p := ⟨tb, q, none⟩) hn2.1 hn2.2).trans eL
    have f0 := (b2.cell (p := ⟨pb, po + q * 2, none⟩) hn3.1 hn3.2).trans e0
    have f1 := (b2.cell (p := ⟨pb, po + q * 2 + 1, none⟩) hn3.1 hn3.2).trans e1
    have HRow2 := hid (owns_below (owns_keep HRow.out (fun k e => b2.block k (World.ownsRow.lt HRow.out k e).2 (hfn k e))) ((Below.refl w2.heap.size w2).alloc (Nat.le_refl _) (.cells #[.int .i64 v, .slice (some ⟨G', 0, none⟩) ln (2 * ln + 70)] 97)))
    have ht2 : tb < w2.heap.size := Nat.lt_of_lt_of_le hn2.1 hsz2
    have hp2 : pb < w2.heap.size := Nat.lt_of_lt_of_le hn3.1 hsz2
    have hw2 : wb < w2.heap.size := Nat.lt_of_lt_of_le hn1.1 hsz2
    clear hl2 hG2 b2 HLd e10 eL e0 e1
    refine hK9.out _ _ ⟨f10, fL, f0, f1⟩ (fun hSS => ?_)
    clear hK9 K9
    try simp only [Act.put, zA, zB, zC]
    refine tk 19 (some 51) (.build 97 #[(0, .tmp 37), (1, .tmp 50)]) 97 none hSS ?_
    try simp only [Act.put, zA, zB, zC]
    refine wpAnyH_ready (rs := [20]) (by kernel_rfl) (by simp) (AllReadyH.cons (o := ({ dst := some 52, op := Op.buildSlice 35 1 #[(0, Operand.tmp 51)], type := 35, pos := _, after := _, guard := none } : Oper)) rfl (fun K9 hK9 => ?_) AllReadyH.nil)
    go_simp
    refine hK9.out _ _ ⟨(World.cell?_alloc_past _ _ _ hw2).trans f10, (World.cell?_alloc_past _ _ _ ht2).trans fL, (World.cell?_alloc_past _ _ _ hp2).trans f0, (World.cell?_alloc_past _ _ _ hp2).trans f1⟩ (fun hSS => ?_)
    clear hK9 K9
    try simp only [Act.put, zA, zB, zC]
    refine wpAnyH_ready (rs := [21]) (by kernel_rfl) (by simp) (AllReadyH.cons (o := ({ dst := some 53, op := Op.call { callee := Callee.builtin Builtin.append, args := #[Operand.tmp 32, Operand.tmp 52], argTypes := #[35, 35] }, type := 35, pos := _, after := _, guard := none } : Oper)) rfl (fun K9 hK9 => ?_) AllReadyH.nil)
    refine step_append_lies _ (by rfl) _ _ _ (by rfl) B0 97 i68 (.agg #[.int .i64 0, .slice none 0 0]) 2 32 Tryz.underlying35 hi68 hz68 hs68 hb68 rfl (by decide) _ q _ (by rfl) (by exact HRow2.out) ⟨w2.heap.size, 0, none⟩ 1 1 [.int .i64 v, .slice (some ⟨G', 0, none⟩) ln (2 * ln + 70)] (by rfl) (by rfl) (by exact news2 w2 _ _ _) (by intro u hu; simp at hu; rcases hu with rfl | rfl <;> rfl) (by decide) (by unfold maxLen; omega) (by omega) (by simp; omega) (w2.heap.size + 1) (by simp) ?_
    intro g4 cap4 w6 ho4 hg4 hlie4 _
    have g10 := (World.cell?_of_block (a := ⟨wb, 10, none⟩) (hg4.block wb (by simp; omega) (fun e => hff.1 e.symm))).trans ((World.cell?_alloc_past _ _ _ hw2).trans f10)
    have gL := (World.cell?_of_block (a := ⟨tb, q, none⟩) (hg4.block tb (by simp; omega) (fun e => hff.2.1 e.symm))).trans ((World.cell?_alloc_past _ _ _ ht2).trans fL)
    have g0 := (World.cell?_of_block (a := ⟨pb, po + q * 2, none⟩) (hg4.block pb (by simp; omega) (fun e => hff.2.2 e.symm))).trans ((World.cell?_alloc_past _ _ _ hp2).trans f0)
    have g1 := (World.cell?_of_block (a := ⟨pb, po + q * 2 + 1, none⟩) (hg4.block pb (by simp; omega) (fun e => hff.2.2 e.symm))).trans ((World.cell?_alloc_past _ _ _ hp2).trans f1)
    have FIN0 := hid (And.intro ho4 (And.intro hg4 hlie4))
    clear ho4 hg4 hlie4 f10 fL f0 f1
    dsimp [Act.put]
    refine hK9.out _ _ ⟨g10, gL, g0, g1⟩ (fun hSS => ?_)
    clear hK9 K9
    try simp only [List.setIfInBounds_toArray, List.set_cons_zero, List.set_cons_succ]
    refine tk 22 (some 5) (.assign (.tmp 53)) 35 none hSS ?_
    try simp only [Act.put, zA, zB, zC]
    refine wpAnyH_done (by kernel_rfl) (NoPanic.normal ?_) _
    obtain ⟨td2, Ls2, qs2, hF⟩ := HNX.out w2 w6 G' g4 cap4 B2.out.1 B2.out.2.1 B2.out.2.2 FIN0.out.1 FIN0.out.2.1 FIN0.out.2.2
    have FIN := hid hF
    clear hF HNX FIN0 HRow2 B2 g10 gL g0 g1 hSS HRow
    go_wp2_with fail
    go_roundw
    case rel => exact ⟨q + 1, some ⟨g4, 0, none⟩, cap4, td2, Ls2, qs2, by omega, by go_num, rfl, FIN.out⟩
    case measure => simp [intOf]; omega
   ·have hq1 : q < Ls'.length := by omega
    obtain ⟨tb, dc, L, o, pb, po, etd, eLq, rfl, e10, eL, e0, e1, hld, hn1, hn2, hn3, hfn, hff⟩ := hQ.ready (by rw [HB0.out]; exact Nat.le_refl _) hwl HWT.out HPP.out hq1 HR.out hpd
    have hs7 : B0 ≤ wr.heap.size := by rw [HB0.out]; exact hQ.bt.size
    have hp1 : ¬ ((Ls'.length : Int) ≤ (q : Int)) := by omega
    have hQ7 := hQ
    clear hQ
    have HLd := hid hld
    have HRow := hid (owns_below hQ7.row ((Below.refl wr.heap.size wr).drew))
    have HNX : Hid (∀ (w2 w6 : World) (G' g4 cap4 : Nat), LdL w2 L G' pp.data → (o = some G' ∨ wr.drew.heap.size ≤ G') → But (fun x => x = L ∨ o = some x) wr.drew w2 → w6.ownsRow B0 97 2 (.slice (some ⟨g4, 0, none⟩) (q + 1) cap4) (q + 1) (pmCells qs ++ [.int .i64 pp.at_, .slice (some ⟨G', 0, none⟩) pp.data.length (2 * pp.data.length + 70)]) → (w2.alloc (.cells #[.int .i64 pp.at_, .slice (some ⟨G', 0, none⟩) pp.data.length (2 * pp.data.length + 70)] 97)).grownBy w6 (Value.slice fa q fc).ownBlock → ((Value.slice fa q fc).ownBlock = some g4 ∨ g4 = w2.heap.size + 1) → ∃ td' Ls' qs, Lq B0 w w6 wb p c jv g rm lasted off trying tried tl td Ls ps (q + 1) (some ⟨g4, 0, none⟩) cap4 td' Ls' qs) := fun w2 w6 G' g4 cap4 x1 x2 x3 x4 x5 x6 => ⟨_, _, _, hQ7.next (by rw [HB0.out]; exact Nat.le_refl _) hwl HWT.out HPP.out eLq x1 x2 x3 x4 x5 x6⟩
    obtain ⟨dn, hdn⟩ : ∃ dn, dn = Ls'.length := ⟨_, rfl⟩
    rw [← hdn] at e10 hp1 c10
    have hqd : q < dn := by rw [hdn]; omega
    have hqd' : (q : Int) < (dn : Int) := by omega
    obtain ⟨v, hv⟩ : ∃ v, v = pp.at_ := ⟨_, rfl⟩
    obtain ⟨ln, hln⟩ : ∃ ln, ln = pp.data.length := ⟨_, rfl⟩
    obtain ⟨ad, had⟩ : ∃ ad, ad = pp.ad := ⟨_, rfl⟩
    obtain ⟨cp1, hcp1⟩ : ∃ cp1, cp1 = pp.cap := ⟨_, rfl⟩
    rw [← hv] at e0
    rw [← hln, ← had, ← hcp1] at e1 HLd
    rw [← hv, ← hln] at HNX
    clear hQ7 hld hpush hq1 hv hln had hcp1 hdn eLq etd hpd
    go_wp2_with fail
    refine wp_region_noPanic ?_
    refine wp_region_held_drew (S := fun w' => w'.cell? ⟨wb, 10, none⟩ = some (.slice (some ⟨tb, 0, none⟩) dn dc) ∧ w'.cell? ⟨tb, q, none⟩ = some (.pointer (some ⟨L, 0, none⟩)) ∧ w'.cell? ⟨pb, po + q * 2, none⟩ = some (.int .i64 v) ∧ w'.cell? ⟨pb, po + q * 2 + 1, none⟩ = some (.slice ad ln cp1)) (by kernel_rfl) ⟨e10, eL, e0, e1⟩ (fun hSS => ?_)
    refine tk 0 (some 32) (.move (.tmp 5)) 35 none hSS ?_
    refine tk 1 (some 33) (.move (.tmp 1)) 35 none hSS ?_
    refine tk 2 (some 34) (.move (.tmp 6)) 3 none hSS ?_
    try simp only [Act.put, zA, zB, zC]
    refine tk 3 (some 35) (.indexAddr 35 (.tmp 33) (.tmp 34)) 0 none hSS ?_
    refine tk 4 (some 36) (.fieldAddr 97 (.tmp 35) 0) 0 none hSS ?_
    refine tk 5 (some 37) (.load 3 (.tmp 36)) 3 none hSS ?_
    refine tk 6 (some 38) (.move (.tmp 0)) 232 none hSS ?_
    try simp only [Act.put, zA, zB, zC]
    refine tk 7 (some 39) (.nilCheck (.tmp 38)) 0 none hSS ?_
    refine tk 8 (some 40) (.fieldAddr 48 (.tmp 39) 1) 0 none hSS ?_
    refine tk 9 (some 41) (.load 46 (.tmp 40)) 46 none hSS ?_
    refine tk 10 (some 42) (.move (.tmp 6)) 3 none hSS ?_
    try simp only [Act.put, zA, zB, zC]
    refine tk 11 (some 43) (.indexAddr 46 (.tmp 41) (.tmp 42)) 0 none hSS ?_
    refine tk 12 (some 44) (.load 233 (.tmp 43)) 233 none hSS ?_
    refine tk 13 (some 45) (.move (.tmp 1)) 35 none hSS ?_
    refine tk 14 (some 46) (.move (.tmp 6)) 3 none hSS ?_
    try simp only [Act.put, zA, zB, zC]
    refine tk 15 (some 47) (.indexAddr 35 (.tmp 45) (.tmp 46)) 0 none hSS ?_
    refine tk 16 (some 48) (.fieldAddr 97 (.tmp 47) 1) 0 none hSS ?_
    refine tk 17 (some 49) (.load 22 (.tmp 48)) 22 none hSS ?_
    try simp only [Act.put, zA, zB, zC]
    refine wpAnyH_ready (rs := [18]) (by kernel_rfl) (by simp) (AllReadyH.cons (o := ({ dst := some 50, op := Op.call { callee := Callee.value (Operand.func 152), args := #[Operand.tmp 44, Operand.tmp 49], argTypes := #[233, 22] }, type := 22, pos := _, after := _, guard := none } : Oper)) rfl (fun K9 hK9 => ?_) AllReadyH.nil)
    go_simp
    go_at_call 152
    refine Calls.mono HLd.out ?_
    rintro e w2 ⟨G', rfl, hl2, hG2, b2⟩
    have B2 := hid (And.intro hl2 (And.intro hG2 b2))
    have hsz2 : wr.heap.size ≤ w2.heap.size := b2.size
    have f10 := (b2.cell (p := ⟨wb, 10, none⟩) hn1.1 hn1.2).trans e10
    have fL := (b2.cell (p := ⟨tb, q, none⟩) hn2.1 hn2.2).trans eL
    have f0 := (b2.cell (p := ⟨pb, po + q * 2, none⟩) hn3.1 hn3.2).trans e0
    have f1 := (b2.cell (p := ⟨pb, po + q * 2 + 1, none⟩) hn3.1 hn3.2).trans e1
    have HRow2 := hid (owns_below (owns_keep HRow.out (fun k e => b2.block k (World.ownsRow.lt HRow.out k e).2 (hfn k e))) ((Below.refl w2.heap.size w2).alloc (Nat.le_refl _) (.cells #[.int .i64 v, .slice (some ⟨G', 0, none⟩) ln (2 * ln + 70)] 97)))
    have ht2 : tb < w2.heap.size := Nat.lt_of_lt_of_le hn2.1 hsz2
    have hp2 : pb < w2.heap.size := Nat.lt_of_lt_of_le hn3.1 hsz2
    have hw2 : wb < w2.heap.size := Nat.lt_of_lt_of_le hn1.1 hsz2
    clear hl2 hG2 b2 HLd e10 eL e0 e1
    refine hK9.out _ _ ⟨f10, fL, f0, f1⟩ (fun hSS => ?_)
    clear hK9 K9
    try simp only [Act.put, zA, zB, zC]
    refine tk 19 (some 51) (.build 97 #[(0, .tmp 37), (1, .tmp 50)]) 97 none hSS ?_
    try simp only [Act.put, zA, zB, zC]
    refine wpAnyH_ready (rs := [20]) (by kernel_rfl) (by simp) (AllReadyH.cons (o := ({ dst := some 52, op := Op.buildSlice 35 1 #[(0, Operand.tmp 51)], type := 35, pos := _, after := _, guard := none } : Oper)) rfl (fun K9 hK9 => ?_) AllReadyH.nil)
    go_simp
    refine hK9.out _ _ ⟨(World.cell?_alloc_past _ _ _ hw2).trans f10, (World.cell?_alloc_past _ _ _ ht2).trans fL, (World.cell?_alloc_past _ _ _ hp2).trans f0, (World.cell?_alloc_past _ _ _ hp2).trans f1⟩ (fun hSS => ?_)
    clear hK9 K9
    try simp only [Act.put, zA, zB, zC]
    refine wpAnyH_ready (rs := [21]) (by kernel_rfl) (by simp) (AllReadyH.cons (o := ({ dst := some 53, op := Op.call { callee := Callee.builtin Builtin.append, args := #[Operand.tmp 32, Operand.tmp 52], argTypes := #[35, 35] }, type := 35, pos := _, after := _, guard := none } : Oper)) rfl (fun K9 hK9 => ?_) AllReadyH.nil)
    refine step_append_lies _ (by rfl) _ _ _ (by rfl) B0 97 i68 (.agg #[.int .i64 0, .slice none 0 0]) 2 32 Tryz.underlying35 hi68 hz68 hs68 hb68 rfl (by decide) _ q _ (by rfl) (by exact HRow2.out) ⟨w2.heap.size, 0, none⟩ 1 1 [.int .i64 v, .slice (some ⟨G', 0, none⟩) ln (2 * ln + 70)] (by rfl) (by rfl) (by exact news2 w2 _ _ _) (by intro u hu; simp at hu; rcases hu with rfl | rfl <;> rfl) (by decide) (by unfold maxLen; omega) (by omega) (by simp; omega) (w2.heap.size + 1) (by simp) ?_
    intro g4 cap4 w6 ho4 hg4 hlie4 _
    have g10 := (World.cell?_of_block (a := ⟨wb, 10, none⟩) (hg4.block wb (by simp; omega) (fun e => hff.1 e.symm))).trans ((World.cell?_alloc_past _ _ _ hw2).trans f10)
    have gL := (World.cell?_of_block (a := ⟨tb, q, none⟩) (hg4.block tb (by simp; omega) (fun e => hff.2.1 e.symm))).trans ((World.cell?_alloc_past _ _ _ ht2).trans fL)
    have g0 := (World.cell?_of_block (a := ⟨pb, po + q * 2, none⟩) (hg4.block pb (by simp; omega) (fun e => hff.2.2 e.symm))).trans ((World.cell?_alloc_past _ _ _ hp2).trans f0)
    have g1 := (World.cell?_of_block (a := ⟨pb, po + q * 2 + 1, none⟩) (hg4.block pb (by simp; omega) (fun e => hff.2.2 e.symm))).trans ((World.cell?_alloc_past _ _ _ hp2).trans f1)
    have FIN0 := hid (And.intro ho4 (And.intro hg4 hlie4))
    clear ho4 hg4 hlie4 f10 fL f0 f1
    dsimp [Act.put]
    refine hK9.out _ _ ⟨g10, gL, g0, g1⟩ (fun hSS => ?_)
    clear hK9 K9
    try simp only [List.setIfInBounds_toArray, List.set_cons_zero, List.set_cons_succ]
    refine tk 22 (some 5) (.assign (.tmp 53)) 35 none hSS ?_
    try simp only [Act.put, zA, zB, zC]
    refine wpAnyH_done (by kernel_rfl) (NoPanic.normal ?_) _
    obtain ⟨td2, Ls2, qs2, hF⟩ := HNX.out w2 w6 G' g4 cap4 B2.out.1 B2.out.2.1 B2.out.2.2 FIN0.out.1 FIN0.out.2.1 FIN0.out.2.2
    have FIN := hid hF
    clear hF HNX FIN0 HRow2 B2 g10 gL g0 g1 hSS HRow
    go_wp2_with fail
    go_roundw
    case rel => exact ⟨q + 1, some ⟨g4, 0, none⟩, cap4, td2, Ls2, qs2, by omega, by go_num, rfl, FIN.out⟩
    case measure => simp [intOf]; omega
  ·have hq' : ¬ (q : Int) < (N : Int) := by omega
   have hqe : q = N := by omega
   subst hqe
   clear hnl HR HD
   have hs1 : B0 ≤ wr.heap.size := by rw [HB0.out]; exact hQ.bt.size
   have k9 : wr.cell? ⟨wb, 9, none⟩ = some (.slice la n0 lc0) := by rw [← HTL.out]; exact hQ.wd.cell 9
   have hrow0 := hQ.row
   have hwlr : wb < wr.heap.size := Nat.lt_of_lt_of_le hwl hQ.bt.size
   have hfw : (Value.slice fa q fc).ownBlock ≠ some wb := fun e => by have := (World.ownsRow.lt hQ.row _ e).1; rw [HB0.out] at this; omega
   have HQ := hid hQ
   have HROW0 := hid hrow0
   clear hQ hrow0
   obtain ⟨w1, hw1⟩ : ∃ w1, w1 = wr := ⟨_, rfl⟩
   subst hw1
   have HROW1 : Hid (w1.ownsRow B0 97 2 (.slice fa (q + 0) fc) (q + 0) (pmCells qs ++ bhd 0)) := by
    have := HROW0.out
    show w1.ownsRow _ _ _ _ _ _
    simpa [bhd] using this
   clear HROW0
   go_wp2_with fail
   go_loopw [5, 7] (fun ov iv wt => ∃ (r : Nat) (fa' : Option Addr) (fc' : Nat), r ≤ q + 70 ∧ iv = .int .i64 (r : Int) ∧ ov = .slice fa' (q + r) fc' ∧ wt.ownsRow B0 97 2 (.slice fa' (q + r) fc') (q + r) (pmCells qs ++ bhd r) ∧ But (fun k => (Value.slice fa q fc).ownBlock = some k) w1 wt ∧ (∀ k, (Value.slice fa' (q + r) fc').ownBlock = some k → (Value.slice fa q fc).ownBlock = some k ∨ w1.heap.size ≤ k)) (fun _ iv _ => q + 70 - (intOf iv).toNat)
   case atStart => exact ⟨0, fa, fc, by omega, rfl, rfl, HROW1.out, But.refl _ _, fun k e => .inl e⟩
   case round =>
    clear HROW1
    obtain ⟨r, fa', fc', hr, rfl, rfl, hrow, hbt, hown⟩ := hrel
    have hst := hbt.size
    have HRR := hid (And.intro hrow (And.intro hbt hown))
    clear hrow hbt hown
    by_cases hr7 : r < q + 70
    ·have hr' : (r : Int) < (q : Int) + 70 := by omega
     have HBh := hid (behind_any r wr (by omega))
     obtain ⟨v, hv⟩ : ∃ v : Int, v = -7 - (r : Int) := ⟨_, rfl⟩
     rw [← hv] at HBh
     have HV := hid hv
     clear hv
     go_wp2_with fail
     refine Calls.mono HBh.out ?_
     rintro e w2 ⟨rfl, b2⟩
     have hs2 := b2.size
     have HRow := hid (owns_below (owns_below HRR.out.1 b2) ((Below.refl w2.heap.size w2).alloc (Nat.le_refl _) (.cells #[.int .i64 v, .slice none 0 0] 97)))
     have HB2 := hid b2
     clear b2 HBh
     go_wp2_with (at_builtin; refine wpList_append_lies _ rfl _ _ _ rfl B0 97 i68 (.agg #[.int .i64 0, .slice none 0 0]) 2 32 Tryz.underlying35 hi68 hz68 hs68 hb68 rfl (by decide) _ (q + r) _ rfl (by exact HRow.out) ⟨w2.heap.size, 0, none⟩ 1 1 [.int .i64 v, .slice none 0 0] rfl rfl (by exact news2 w2 _ _ _) (by intro u hu; simp at hu; rcases hu with rfl | rfl <;> rfl) (by decide) (by unfold maxLen; omega) (by omega) (by simp; omega) (w2.heap.size + 1) (by simp) ?_; intro g4 cap4 w6 ho4 hg4 hlie4 _; have HO4 := hid (And.intro ho4 (And.intro hg4 hlie4)); clear ho4 hg4 hlie4)
     have FIN : Hid (w6.ownsRow B0 97 2 (.slice (some ⟨g4, 0, none⟩) (q + (r + 1)) cap4) (q + (r + 1)) (pmCells qs ++ bhd (r + 1)) ∧ But (fun k => (Value.slice fa q fc).ownBlock = some k) w1 w6 ∧ (∀ k, (Value.slice (some ⟨g4, 0, none⟩) (q + (r + 1)) cap4).ownBlock = some k → (Value.slice fa q fc).ownBlock = some k ∨ w1.heap.size ≤ k)) := by
      obtain ⟨ho4, hg4, hlie4⟩ := HO4.out
      refine ⟨?_, ?_, fun k e => ?_⟩
      ·rw [bhd_succ, ← List.append_assoc, ← HV.out]
       exact ho4
      ·refine (((HRR.out.2.1.comp (But.of_below HB2.out (X := fun _ => False)) (fun _ _ q => q.elim)).alloc (.cells #[.int .i64 v, .slice none 0 0] 97))).of_grown hg4 (fun x e hx => ?_)
       rcases HRR.out.2.2 x e with h1 | h1
       ·exact h1
       ·omega
      ·have e2 : g4 = k := by injection e
       subst e2
       rcases hlie4 with h1 | h1
       ·exact HRR.out.2.2 g4 h1
       ·exact .inr (by omega)
     clear HO4 HRow HB2 HRR
     refine ⟨⟨r + 1, some ⟨g4, 0, none⟩, cap4, by omega, by go_num, rfl, FIN.out.1, FIN.out.2.1, FIN.out.2.2⟩, ?_⟩
     simp [intOf]
     omega
    ·have hre : r = q + 70 := by omega
     have hr' : ¬ (r : Int) < (q : Int) + 70 := by omega
     subst hre
     clear hr hr7 hq'
     obtain ⟨hrow, hbt, hown⟩ := HRR.out
     obtain ⟨fb, cq, efa, _, _⟩ := owns_form hrow (by intro e; injection e; omega)
     simp only [Value.slice.injEq] at efa
     obtain ⟨rfl, _, rfl⟩ := efa
     have hfb := (World.ownsRow.lt hrow fb rfl)
     have hwt : wb < wr.heap.size := by omega
     have hwdt := HQ.out.wd.keep (hbt.block wb hwlr hfw)
     have hfbw : fb ≠ wb := fun e => by have := hfb.1; have := HB0.out; omega
     have m9 : wr.cell? ⟨wb, 9, none⟩ = some (.slice la n0 lc0) := by rw [← HTL.out]; exact hwdt.cell 9
     have hql : qs.length = q := by
      have := congrArg List.length HQ.out.lp.1
      rw [List.length_map, List.length_map, List.length_take, ← HN.out] at this
      omega
     obtain ⟨cs, hcs⟩ : ∃ cs, cs = pmCells qs ++ bhd (q + 70) := ⟨_, rfl⟩
     have hcl : cs.length = (q + (q + 70)) * 2 := by rw [hcs, List.length_append, pmCells_length, length_bhd, hql]; omega
     have h1c : ∀ u ∈ cs, u.oneCell' = true := fun u hu => by
      rw [hcs] at hu
      rcases List.mem_append.1 hu with hu | hu
      ·exact one_pmCells qs u hu
      ·exact one_bhd _ u hu
     have hsrc0 : ∀ j u, cs[j]? = some u → wr.cell? ((⟨fb, 0, none⟩ : Addr).add j) = some u := by
      rw [hcs]
      exact World.ownsRow.cells hrow (g := fb) rfl
     obtain ⟨M, hM⟩ : ∃ M, M = q + (q + 70) := ⟨_, rfl⟩
     have hMl : M ≤ 1073741894 := by omega
     have hqM : q ≤ M := by omega
     by_cases hmk : n0 < M
     ·obtain ⟨w3, hrunm, hrow3, gr3⟩ := run_make_full (P := Tryz.prog) wr 0 35 97 i68 (.agg #[.int .i64 0, .slice none 0 0]) 2 Tryz.underlying35 hi68 hz68 hs68 .i64 .i64 M (by rw [hb68]; omega) (by unfold maxLen; omega) (Nat.zero_le _)
      have hs3 := gr3.size
      have hlt3 : wr.heap.size < w3.heap.size := (World.ownsRow.lt hrow3 wr.heap.size rfl).2
      have hwd3 := hwdt.keep (gr3.block wb hwt (by simp))
      have p9 : w3.cell? ⟨wb, 9, none⟩ = some (.slice la n0 lc0) := by rw [← HTL.out]; exact hwd3.cell 9
      have pf := hwd3.frozen 9
      obtain ⟨lb, hlb⟩ : ∃ lb, lb = wr.heap.size := ⟨_, rfl⟩
      rw [← hlb] at hrunm hrow3
      obtain ⟨w4, hw4⟩ : ∃ w4, w4 = w3.setCell ⟨wb, 9, none⟩ (.slice (some ⟨lb, 0, none⟩) M M) := ⟨_, rfl⟩
      have hwd4 : Wb w4 wb p c jv g rm lasted off trying tried (.slice (some ⟨lb, 0, none⟩) M M) td' := by rw [hw4]; exact hwd3.set9 _
      obtain ⟨xs3, hxs3⟩ : ∃ xs, w3.ownsRow 0 97 2 (.slice (some ⟨lb, 0, none⟩) M M) M xs := ⟨_, hrow3⟩
      have hrow4 : w4.ownsRow 0 97 2 (.slice (some ⟨lb, 0, none⟩) M M) M xs3 := by rw [hw4]; exact owns_setCell hxs3 (by intro e; injection e with e; have e2 : lb = wb := e; omega) _
      obtain ⟨cur, hg4, hfit4, hrow5⟩ := row_set (cs := cs) hrow4 (by omega)
      have b34 : But (fun k => k = wb ∨ k = lb) wr w4 := by rw [hw4]; exact ((But.refl (fun k => k = wb ∨ k = lb) wr).of_grown gr3 (fun x e _ => by cases e)).setCell (.inl rfl) _
      have hsrc4 : ∀ j u, cs[j]? = some u → w4.cell? ((⟨fb, 0, none⟩ : Addr).add j) = some u := fun j u hu => by
       have e := hsrc0 j u hu
       rw [Addr.add_lit] at e ⊢
       exact (b34.cell (p := ⟨fb, 0 + j, none⟩) hfb.2 (fun q => by rcases q with q | q; exact hfbw q; have q2 : fb = lb := q; omega)).trans e
      obtain ⟨w5, hw5⟩ : ∃ w5, w5 = w4.setRow lb (cs ++ cur.toList.drop cs.length).toArray := ⟨_, rfl⟩
      have hlw : lb ≠ wb := by omega
      have hwd5 : Wb w5 wb p c jv g rm lasted off trying tried (.slice (some ⟨lb, 0, none⟩) M M) td' := by rw [hw5]; exact hwd4.keep (setRow_other _ _ _ _ (Ne.symm hlw))
      have e9 : w5.cell? ⟨wb, 9, none⟩ = some (.slice (some ⟨lb, 0, none⟩) M M) := hwd5.cell 9
      have b5 : But (fun k => k = wb ∨ k = lb) wr w5 := by
       rw [hw5]
       have b45 : But (fun k => k = lb) w4 (w4.setRow lb (cs ++ cur.toList.drop cs.length).toArray) := ⟨rfl, rfl, rfl, by simp [World.setRow], fun k hk hne => setRow_other _ _ _ _ hne⟩
       exact b34.comp b45 (fun k _ q => .inr q)
      have FIN : Hid (PO (.returned (.slice (some ⟨lb, 0, none⟩) q M)) w5) := by
       rw [HPO.out]
       rw [← hw5] at hrow5
       have hq := HN.out
       have hQ9 := HQ.out
       rw [hcs] at hrow5
       subst hq
       exact lend_done hQ9 (by rw [HB0.out]; exact Nat.le_refl _) hwl HWT.out hbt b5 hwd5 hrow5 (by omega) (.inr (by omega)) (fun e => by have := (World.ownsRow.lt HL0.out.1 lb e).2; have := hQ9.bt.size; omega)
      have hmn : Nat.min M M = M := Nat.min_self M
      have hcl2 : cs.length = Nat.min M M * 2 := by rw [hmn, hM]; exact hcl
      have hrunc : (Builtin.copy_ #[35, 35] 3 #[.slice (some ⟨lb, 0, none⟩) M M, .slice (some ⟨fb, 0, none⟩) M fc']).run Tryz.prog (w3.setCell ⟨wb, 9, none⟩ (.slice (some ⟨lb, 0, none⟩) M M)) = .ok (.int .i64 (M : Int)) w5 := by
       have h9 := run_copy_two w4 3 lb M M ⟨fb, 0, none⟩ M fc' cur 97 cs hg4 hcl2 hsrc4 hfit4 h1c
       rw [← hw5, hw4, hmn] at h9
       exact h9
      have hmk' : (n0 : Int) < (M : Int) := by omega
      rw [← hM]
      clear hw4 hw5 hcl2 hmn hg4 hsrc4 hfit4 h1c hwdt hwd3 hwd4 hwd5 hrow hbt hown hrow3 hxs3 hrow4 hrow5 gr3 b34 b5 hsrc0 hcs hcl HRR HQ hM hfb hfbw hql hlw hlb hlt3 hs3 HL0 HTL HPO HWT
      go_wp2
      exact FIN.out
     ·have hl0 := HL0.out.1
      rw [HTL.out] at hl0
      obtain ⟨lb, cq2, ela, _, hlc⟩ := owns_form hl0 (by intro e; injection e; omega)
      simp only [Value.slice.injEq] at ela
      obtain ⟨rfl, _, rfl⟩ := ela
      have hto : tl.ownBlock = some lb := by rw [HTL.out]; rfl
      obtain ⟨hlT, hlw⟩ := HL0.out.2 lb hto
      have hlb := (World.ownsRow.lt hl0 lb rfl).2
      have hk1 : w1.heap[lb]? = w.heap[lb]? := HQ.out.bt.block lb hlb (fun q => by rcases q with q | q; exact hlw q; exact hlT q)
      have hlb1 : lb < w1.heap.size := Nat.lt_of_lt_of_le hlb HQ.out.bt.size
      have hk2 : wr.heap[lb]? = w1.heap[lb]? := hbt.block lb hlb1 (fun e => by have := (World.ownsRow.lt HQ.out.row lb e).1; have := HB0.out; omega)
      have hrowt : wr.ownsRow 0 97 2 (.slice (some ⟨lb, 0, none⟩) n0 lc0) n0 cs0 := by
       refine owns_keep hl0 (fun k e => ?_)
       have e2 : lb = k := by injection e
       subst e2
       exact hk2.trans hk1
      obtain ⟨cur, hg4, hfit4, hrow5⟩ := row_set (cs := cs) hrowt (by omega)
      obtain ⟨w5, hw5⟩ : ∃ w5, w5 = wr.setRow lb (cs ++ cur.toList.drop cs.length).toArray := ⟨_, rfl⟩
      have hwdt2 := hwdt
      rw [HTL.out] at hwdt2
      have hwd5 : Wb w5 wb p c jv g rm lasted off trying tried (.slice (some ⟨lb, 0, none⟩) n0 lc0) td' := by rw [hw5]; exact hwdt2.keep (setRow_other _ _ _ _ (Ne.symm hlw))
      have e9 : w5.cell? ⟨wb, 9, none⟩ = some (.slice (some ⟨lb, 0, none⟩) n0 lc0) := hwd5.cell 9
      have b5 : But (fun k => k = wb ∨ k = lb) wr w5 := by
       rw [hw5]
       exact ⟨rfl, rfl, rfl, by simp [World.setRow], fun k hk hne => setRow_other _ _ _ _ (fun q => hne (.inr q))⟩
      have FIN : Hid (PO (.returned (.slice (some ⟨lb, 0, none⟩) q lc0)) w5) := by
       rw [HPO.out]
       rw [← hw5] at hrow5
       have hq := HN.out
       have hQ9 := HQ.out
       rw [hcs] at hrow5
       subst hq
       exact lend_done hQ9 (by rw [HB0.out]; exact Nat.le_refl _) hwl HWT.out hbt b5 hwd5 hrow5 hn0 (.inl hto) (fun _ => ⟨hlT, hlb⟩)
      have hmn : Nat.min M n0 = M := Nat.min_eq_left (by omega)
      have hcl2 : cs.length = Nat.min M n0 * 2 := by rw [hmn, hM]; exact hcl
      have hrunc : (Builtin.copy_ #[35, 35] 3 #[.slice (some ⟨lb, 0, none⟩) n0 lc0, .slice (some ⟨fb, 0, none⟩) M fc']).run Tryz.prog wr = .ok (.int .i64 (M : Int)) w5 := by
       have h9 := run_copy_two wr 3 lb n0 lc0 ⟨fb, 0, none⟩ M fc' cur 97 cs hg4 hcl2 hsrc0 hfit4 h1c
       rw [← hw5, hmn] at h9
       exact h9
      have hmk' : ¬ (n0 : Int) < (M : Int) := by omega
      have hq0 : q ≤ lc0 := by omega
      have hq1 : (q : Int) ≤ (lc0 : Int) := by omega
      rw [← hM]
      clear hw5 hcl2 hmn hg4 hsrc0 hfit4 h1c hwdt hwdt2 hwd5 hrow hbt hown hrowt hrow5 b5 hcs hcl HRR HQ hM hfb hfbw hql hlw hlb HL0 HTL HPO HWT hl0 hto hlT hk1 hk2 hlb1
      go_wp2
      exact FIN.out
end Go.Proofs.YtldlejpacgphmabGreat
