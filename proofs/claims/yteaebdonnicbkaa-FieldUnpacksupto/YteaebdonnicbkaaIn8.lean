/-
  The record of numbers: Own (function 49).
-/
import Derived.Test.YteaebdonnicbkaaInB
namespace Go.Proofs.Yteaebdonnicbkaa
open Go.RowKit

theorem newsV36 (w : World) (v : Value) {H : Nat} (hH : w.heap.size = H) : ∀ j u, [v][j]? = some u → (w.alloc (.cells #[v] 36)).cell? ((⟨H, 0, none⟩ : Addr).add j) = some u := by
  subst hH
  intro j u h
  match j, h with
  | 0, h => simp at h; subst h; simp [Addr.add]

theorem newsV1 (w : World) (v : Value) (t : TypeId) : ∀ j u, [v][j]? = some u → (w.alloc (.cells #[v] t)).cell? ((⟨w.heap.size, 0, none⟩ : Addr).add j) = some u := by
  intro j u h
  match j, h with
  | 0, h => simp at h; subst h; simp [Addr.add]

/-- the block of a slice is given a tag -/
def tgo (κ : Nat → Nat) (v : Value) (t x : Nat) : Nat := if v.ownBlock = some x then t else κ x

/-- what is new is only read -/
def ntg (κ : Nat → Nat) (S x : Nat) : Nat := if S ≤ x then 100 else κ x
theorem ntg_new (κ : Nat → Nat) {S x : Nat} (h : S ≤ x) : ntg κ S x = 100 := if_pos h
theorem ntg_old (κ : Nat → Nat) {S x : Nat} (h : x < S) : ntg κ S x = κ x := if_neg (by omega)
theorem Sl3.of_owI {κ : Nat → Nat} {w : World} {B n : Nat} {v : Value} {zs : List Int} (h : OwI B w v n zs) (hk : ∀ g, v.ownBlock = some g → κ g = 100) : Sl3 κ w v zs := by
  have hl := h.len
  have h' := h
  rcases h with ⟨_, h⟩
  rcases h with ⟨h1, h2⟩ | ⟨g, cap, cur, h1, _⟩
  · subst h1
    subst h2
    exact ⟨none, 0, by rw [hl], .inl (List.length_eq_zero_iff.1 hl)⟩
  · subst h1
    exact Sl3.of_own h' (hk g rfl)
/-- the record between two calls -/
def InS (B : Nat) (κ : Nat → Nat) (w : World) (q cnt tot : Nat) (lk : Int) : Prop :=
  ∃ (n nK : Nat) (fr wa ba ke ma : Value) (fv hv kv : List Value) (bs ms : List Int) (Z K : Nat → List Int), In B κ w q cnt tot lk 0 n nK nK fr wa ba ke ma fv hv kv bs ms Z K ∧ Hs3 κ w n hv Z ∧ Hk3 nK K ms ∧ n ≤ 2 ∧ nK + 2 * n = 2 * cnt ∧
    (∀ i, i < n → (Z i).length ≤ 16777216 ∧ 0 ≤ bs.getD i 0 ∧ bs.getD i 0 ≤ 562949953421312) ∧ (∀ j, j < nK → (K j).length ≤ 16779286 ∧ 0 ≤ ms.getD j 0 ∧ ms.getD j 0 ≤ 562949953421312)

set_option maxRecDepth 100000 in
set_option maxHeartbeats 4000000 in
theorem iown_any (B : Nat) (κ : Nat → Nat) (w : World) (q cnt tot : Nat) (lk : Int) (al : Option Addr) (zs : List Int) (hc : cnt ≤ 16777216) (ht : tot + zs.length ≤ 1125899906842624) (hz : zs.length ≤ 16777216) (hS : InS B κ w q cnt tot lk)
    (hlst : (al = none ∧ zs = []) ∨ ∃ g, al = some ⟨g, 0, none⟩ ∧ Blk .i64 3 w g zs ∧ κ g = 200 ∧ B ≤ g) :
    Calls Try.prog 49 #[.pointer (some ⟨q, 0, none⟩), .slice al zs.length zs.length] w fun e w' => e = .returned (.tuple #[]) ∧ ∃ κ', InS B κ' w' q (cnt + 1) (tot + zs.length) lk ∧ (∀ x, x < w.heap.size → κ x = 200 → (Value.slice al zs.length zs.length).ownBlock ≠ some x → κ' x = 200) ∧ But (fun x => κ x ≤ 90 ∨ (Value.slice al zs.length zs.length).ownBlock = some x) w w' := by
  obtain ⟨n, nK, fr, wa, ba, ke, ma, fv, hv, kv, bs, ms, Z, K, h, hh, hK, hn, hnK, hZ, hKm⟩ := hS
  obtain ⟨aF, cF, rfl, _⟩ := owns_slice h.oF
  obtain ⟨aW, cW, rfl, _⟩ := owns_slice h.oW
  obtain ⟨aB, cB, rfl, _⟩ := owns_slice h.oB
  have H1 := h.toO.setC ((cnt : Int) + 1)
  have H2 := H1.setT ((tot : Int) + (zs.length : Int))
  have q0 := h.blk.cell 0
  have q1 := H1.blk.cell 1
  have q3 := H2.blk.cell 3
  have f0 := h.blk.frozen 0
  have f1 := H1.blk.frozen 1
  simp only [List.getElem?_toArray, List.getElem?_cons_succ, List.getElem?_cons_zero] at q0 q1 q3
  have HA := hid (H2.kept (t := 200) (Kp.below ((Below.refl _ _).alloc (Nat.le_refl _) (.cells #[.slice al zs.length zs.length] 36))) (Nat.le_refl _) (by omega))
  have H := hid H2
  have hqB := h.qB
  have hqlt := h.blk.lt
  have hhv : hv.length = n := by simpa using h.oW.1
  have HK := hid hK
  have HZ := hid hZ
  have HKm := hid hKm
  clear hK hZ hKm
  have HH := hid hh
  clear h H1 H2 hh
  generalize hnl : zs.length = nl at *
  have Hnl := hid hnl
  clear hnl
  obtain ⟨i36, hi36, hz36, hs36, hb36⟩ := info_parts info36
  go_enter Try.func49, Try.ntmps49
  go_wp2_with (at_builtin; refine wpList_append_lies _ rfl _ _ 65 (by rfl) B 36 i36 (.slice none 0 0) 1 24 Try.underlying65 hi36 hz36 hs36 hb36 rfl (by decide) _ n fv (by rfl) HA.out.oF ⟨w.heap.size, 0, none⟩ 1 1 [.slice al nl nl] (by rfl) (by rfl) (by exact newsV36 _ (.slice al nl nl) (by simp [World.setCell])) (by intro u hu; simp at hu; subst hu; rfl) (by decide) (by unfold maxLen; omega) (by omega) (by simp [World.setCell]; omega) (w.heap.size + 1) (by simp [World.setCell]) ?_)
  intro g3 cap3 w1 ho hg hlie _
  have hg200 : ∀ x, (Value.slice al nl nl).ownBlock = some x → κ x = 200 ∧ x < w.heap.size := fun x e => by
    rcases hlst with ⟨e1, _⟩ | ⟨g, e1, e2, e3, _⟩
    · rw [e1] at e; cases e
    · rw [e1] at e; cases e; exact ⟨e3, e2.lt⟩
  have HR := H.out.retag (κ' := tgo κ (.slice al nl nl) (6 + n)) (by omega) (fun x _ hx => by unfold tgo; rw [if_neg (fun e => hx (hg200 x e).1)])
  have hfl : fv.length = n := by simpa using H.out.oF.1
  obtain ⟨J1, G1⟩ := HR.stepF (l := .slice al nl nl) (zs := zs) ((Below.refl _ _).alloc (Nat.le_refl _) (.cells #[.slice al nl nl] 36)) hfl (by
    rcases hlst with ⟨e1, e2⟩ | ⟨g, e1, e2, e3, e4⟩
    · left
      have := Hnl.out
      rw [e2] at this
      refine ⟨?_, e2⟩
      rw [e1, ← this]
      rfl
    · right
      refine ⟨g, by rw [e1, Hnl.out], ?_, by unfold tgo; rw [e1]; exact if_pos rfl, e4⟩
      have hne : g ≠ q := fun e => by have := H.out.kq; rw [← e, e3] at this; omega
      exact (e2.of_block (Below.heap_setCell _ _ _ _ hne)).of_block (Below.heap_setCell _ _ _ _ hne)) hg (by simpa [World.setCell] using hlie) ho
  have bb := setq H.out.blk H.out.kq (t := 1) (by decide) ((Below.refl _ _).alloc (Nat.le_refl _) (.cells #[.slice al nl nl] 36)) hg H.out.kF
  have c3' := bb.cell 3
  have f3 := bb.frozen 3
  simp only [List.getElem?_toArray, List.getElem?_cons_succ, List.getElem?_cons_zero] at c3'
  have U1 := hid (((((But.refl (fun x => κ x ≤ 90) w).setCell (p := ⟨q, 0, none⟩) (show κ q ≤ 90 by have := H.out.kq; omega) (.int .i64 ((cnt : Int) + 1))).setCell (p := ⟨q, 1, none⟩) (show κ q ≤ 90 by have := H.out.kq; omega) (.int .i64 ((tot : Int) + (nl : Int)))).alloc (.cells #[.slice al nl nl] 36)).of_grown hg (fun x hx _ => by have := H.out.kF x hx; omega))
  have HJ1 := hid J1
  have HG1 := hid G1
  clear J1 G1 bb HR hg ho hlie q0 q1 q3 f0 f1 HA
  have U1' := hid (U1.out.setCell (p := ⟨q, 3, none⟩) (show κ q ≤ 90 by have := H.out.kq; omega) (.slice (some ⟨g3, 0, none⟩) (n + 1) cap3))
  have hl3 := HG1.out.size
  go_wp2_with fail
  generalize hwA : w1.setCell ⟨q, 3, none⟩ (.slice (some ⟨g3, 0, none⟩) (n + 1) cap3) = wA at *
  clear hwA c3' f3 U1
  have q4 := HJ1.out.blk.cell 4
  simp only [List.getElem?_toArray, List.getElem?_cons_succ, List.getElem?_cons_zero] at q4
  have hqA := HJ1.out.blk.lt
  have hBA : B ≤ wA.heap.size := by omega
  have hE : Hid (OwI wA.heap.size (wA.alloc (.cells #[] 3)) (.slice (some ⟨wA.heap.size, 0, none⟩) 0 0) 0 []) := World.ownsRow_lit wA #[] 0 (Nat.le_refl _) (by decide) rfl
  have ka4 : (wA.alloc (.cells #[] 3)).cell? ⟨q, 4, none⟩ = some (.slice aW n cW) := (World.cell?_alloc_past _ _ _ hqA).trans q4
  have hR : Hid ((al = none ∧ nl = 0 ∧ nl = 0) ∨ ∃ ad, al = some ad ∧ ∀ j u, (zs.map (Value.int .i64))[j]? = some u → (wA.alloc (.cells #[] 3)).cell? (ad.add j) = some u) := by
    show _ ∨ _
    have hh := HJ1.out.fs n (by omega)
    rw [updZ_at, show (fv ++ [Value.slice al nl nl]).getD n (.bool false) = .slice al nl nl from by rw [List.getD_eq_getElem?_getD, List.getElem?_append_right (by omega), hfl]; simp] at hh
    rcases hh with ⟨e1, e2⟩ | ⟨g, e1, e2, _, _⟩
    · cases e1; exact .inl ⟨rfl, rfl, rfl⟩
    · cases e1
      refine .inr ⟨_, rfl, fun j u hu => ?_⟩
      have hj : j < zs.length := by have := (List.getElem?_eq_some_iff.1 hu).1; simpa using this
      have e : (⟨g, 0, none⟩ : Addr).add j = ⟨g, j, none⟩ := by unfold Addr.add; split <;> simp_all
      rw [e]
      exact (World.cell?_alloc_past _ _ _ e2.lt).trans ((e2.cell j hj).trans (by rw [← hu]; simp [hj]))
  have hA := hid (show Hs3 (tag (tgo κ (.slice al nl nl) (6 + n)) g3 1) wA n hv Z from by
    intro i hi
    refine HG1.out.sl (by decide) ((HH.out i hi).keep (by simp [World.setCell]) (fun g hg hk => ?_) (fun g _ hk => ?_))
    · have hne : g ≠ q := fun e => by have := H.out.kq; rw [← e, hk] at this; omega
      exact (Below.heap_setCell _ _ _ _ hne).trans (Below.heap_setCell _ _ _ _ hne)
    · unfold tgo; rw [if_neg (fun e => by have := (hg200 g e).1; omega)]; exact hk)
  go_upto_region 3 with fail
  go_cut [1] (fun s1 wx => ∃ (κj : Nat → Nat) (waj : Value) (hvj : List Value), s1 = .slice al nl nl ∧ InO B κj wx q ((cnt : Int) + 1) ((tot : Int) + (nl : Int)) lk (n + 1) (n + 1) n nK nK (.slice (some ⟨g3, 0, none⟩) (n + 1) cap3) waj (.slice aB n cB) ke ma (fv ++ [.slice al nl nl]) hvj kv bs ms (updZ Z n zs) K ∧ Hs3 κj wx (n + 1) hvj (updZ Z n zs) ∧ wA.heap.size ≤ wx.heap.size ∧
    (∀ x, x < w.heap.size → (κ x = 200 → (Value.slice al nl nl).ownBlock ≠ some x → κj x = 200) ∧ (κj x ≤ 90 → κ x ≤ 90 ∨ (Value.slice al nl nl).ownBlock = some x)) ∧ But (fun x => κ x ≤ 90 ∨ (Value.slice al nl nl).ownBlock = some x) w wx)
  case first =>
   go_wp2_with fail
   go_region_law (first
    | (refine step_copyI (by rfl) _ _ (by rfl) wA.heap.size _ 0 [] (by rfl) (by exact hE.out) al nl nl zs (by rfl) Hnl.out (by exact hR.out) (by omega) (by simp) ?_; intro v2 w2 ho2 hg2; rw [Nat.zero_add, List.nil_append] at ho2; obtain ⟨a2, c2, rfl, _⟩ := owns_slice ho2; have hb2 : Below wA.heap.size wA w2 := ((Below.refl _ _).alloc (Nat.le_refl _) (.cells #[] 3)).drew.grown hg2 (by simp) (fun k hk => by cases hk; exact Nat.le_refl _); have HB2 := hid hb2; have HO2 := hid ho2; have k4 : w2.cell? ⟨q, 4, none⟩ = some (.slice aW n cW) := (hb2.cell (p := ⟨q, 4, none⟩) hqA).trans q4; have hq2 : q < w2.heap.size := Nat.lt_of_lt_of_le hqA hb2.size; have ka4' : (w2.alloc (.cells #[.slice a2 nl c2] 36)).cell? ⟨q, 4, none⟩ = some (.slice aW n cW) := (World.cell?_alloc_past _ _ _ hq2).trans k4; have HJ2 := hid (HJ1.out.kept (t := 200) (Kp.below (HB2.out.trans ((Below.refl _ _).alloc HB2.out.size (.cells #[.slice a2 nl c2] 36)))) (Nat.le_refl _) (by omega)); clear ho2 hg2 hb2)
    | (refine step_append_lies _ (by rfl) _ _ _ (by rfl) B 36 i36 (.slice none 0 0) 1 24 Try.underlying65 hi36 hz36 hs36 hb36 rfl (by decide) _ n hv (by rfl) (by exact HJ2.out.oW) ⟨w2.heap.size, 0, none⟩ 1 1 [.slice a2 nl c2] (by rfl) (by rfl) (by exact newsV36 w2 _ rfl) (by intro u hu; simp at hu; subst hu; rfl) (by decide) (by unfold maxLen; omega) (by omega) (by simp; omega) (w2.heap.size + 1) (by simp) ?_; intro g4 cap4 w5 ho4 hg4 hlie4 _; have bb := setq (w5 := w5) HJ1.out.blk HJ1.out.kq (t := 2) (by decide) (HB2.out.trans ((Below.refl _ _).alloc HB2.out.size (.cells #[.slice a2 nl c2] 36))) hg4 HJ1.out.kW; have c4'' := bb.cell 4; have f4'' := bb.frozen 4; simp only [List.getElem?_toArray, List.getElem?_cons_succ, List.getElem?_cons_zero] at c4''; have HO4 := hid ho4; have HG4 : Hid ((w2.alloc (.cells #[.slice a2 nl c2] 36)).grownBy w5 (Value.slice aW n cW).ownBlock) := hg4; have L4 : Hid ((Value.slice aW n cW).ownBlock = some g4 ∨ g4 = w2.heap.size + 1) := hlie4; clear ho4 hg4 hlie4 bb))
   all_goals
    have hT1 : ∀ x, x < w.heap.size → tag (tgo κ (.slice al nl nl) (6 + n)) g3 1 x = tgo κ (.slice al nl nl) (6 + n) x := fun x hx => HG1.out.same x (by simpa [World.setCell] using hx)
    have hwA : w.heap.size ≤ wA.heap.size := U1'.out.size
    have hJr := (HJ1.out.retag (κ' := ntg (tag (tgo κ (.slice al nl nl) (6 + n)) g3 1) wA.heap.size) (by omega) (fun x hx _ => ntg_old _ hx)).kept (t := 200) (w' := w2) (Kp.below HB2.out) (Nat.le_refl _) (by omega)
    obtain ⟨J4, G4⟩ := hJr.stepW (l := .slice a2 nl c2) ((Below.refl _ _).alloc (Nat.le_refl _) (.cells #[.slice a2 nl c2] 36)) HG4.out (by simpa using L4.out) HO4.out
    have S4 := Hs3.one (κ := ntg (tag (tgo κ (.slice al nl nl) (6 + n)) g3 1) wA.heap.size) (Z := Z) (fun i hi => (hA.out i hi).keep HB2.out.size (fun g hg _ => HB2.out.block g hg) (fun g hg hk => (ntg_old _ hg).trans hk)) G4 (by decide) hhv (Sl3.of_owI HO2.out (fun g hg => ntg_new _ (World.ownsRow.lt HO2.out g hg).1))
    have hT4 : ∀ x, x < w.heap.size → tag (ntg (tag (tgo κ (.slice al nl nl) (6 + n)) g3 1) wA.heap.size) g4 2 x = tgo κ (.slice al nl nl) (6 + n) x := fun x hx => by
      have := HB2.out.size
      rw [G4.same x (by omega), ntg_old _ (by omega), hT1 x hx]
    have T4 := hid (show ∀ x, x < w.heap.size → (κ x = 200 → (Value.slice al nl nl).ownBlock ≠ some x → tag (ntg (tag (tgo κ (.slice al nl nl) (6 + n)) g3 1) wA.heap.size) g4 2 x = 200) ∧ (tag (ntg (tag (tgo κ (.slice al nl nl) (6 + n)) g3 1) wA.heap.size) g4 2 x ≤ 90 → κ x ≤ 90 ∨ (Value.slice al nl nl).ownBlock = some x) from fun x hx => by
      rw [hT4 x hx]
      unfold tgo
      split
      · rename_i e; exact ⟨fun _ h => absurd e h, fun _ => .inr e⟩
      · exact ⟨fun h _ => h, .inl⟩)
    have U4 := hid (((((U1'.out.mono (Y := fun x => κ x ≤ 90 ∨ (Value.slice al nl nl).ownBlock = some x) (fun _ _ h => .inl h)).step (But.of_below (X := fun _ => False) HB2.out) (fun _ _ q => q.elim)).alloc (.cells #[.slice a2 nl c2] 36)).of_grown HG4.out (fun x hx hxw => by
      have k := HJ1.out.kW x hx
      rw [hT1 x hxw] at k
      unfold tgo at k
      split at k
      · rename_i e; exact .inr e
      · exact .inl (by omega))).setCell (p := ⟨q, 4, none⟩) (show κ q ≤ 90 ∨ _ from .inl (by have := H.out.kq; omega)) (.slice (some ⟨g4, 0, none⟩) (n + 1) cap4))
    have Z4 := hid (Nat.le_trans HB2.out.size G4.size)
    have J5 := hid J4
    have S5 := hid S4
    clear hT1 hT4 hJr J4 G4 S4 q4 ka4 k4 ka4' c4'' f4''
    go_wp2_with fail
    go_meet
    exact ⟨_, _, _, rfl, J5.out, S5.out, Z4.out, T4.out, U4.out⟩
  case rest =>
  obtain ⟨κj, waj, hvj, rfl, hJ, hS, hsz, hT, hU⟩ := hcut
  have HJ := hid hJ
  have HS := hid hS
  have HT := hid hT
  have HU := hid hU
  have q5 := hJ.blk.cell 5
  have q0 := hJ.blk.cell 0
  simp only [List.getElem?_toArray, List.getElem?_cons_succ, List.getElem?_cons_zero] at q5 q0
  have hqc := hJ.blk.lt
  have hBc : B ≤ wc.heap.size := by omega
  have hkq := H.out.kq
  clear hJ hS hT hU q4 ka4 hR hE hA HJ1 HG1 U1' HH H
  have hmul : IntKind.i64.wrap (1000000 * ((cnt : Int) + 1)) = 1000000 * ((cnt : Int) + 1) := by rw [IntKind.wrap_i64]; omega
  have HJ6 := hid ((HJ.out.kept (t := 200) (Kp.below ((Below.refl _ _).alloc (Nat.le_refl _) (.cells #[.int .i64 (1000000 * ((cnt : Int) + 1))] 3))) (Nat.le_refl _) (by omega)).drew (by omega))
  have ka5 : (wc.alloc (.cells #[.int .i64 (1000000 * ((cnt : Int) + 1))] 3)).cell? ⟨q, 5, none⟩ = some (.slice aB n cB) := (World.cell?_alloc_past _ _ _ hqc).trans q5
  go_upto_region 4 with fail
  go_cut [1] (fun s1 wx => ∃ (κk : Nat → Nat) (bak : Value), s1 = .slice al nl nl ∧ InO B κk wx q ((cnt : Int) + 1) ((tot : Int) + (nl : Int)) lk (n + 1) (n + 1) (n + 1) nK nK (.slice (some ⟨g3, 0, none⟩) (n + 1) cap3) waj bak ke ma (fv ++ [.slice al nl nl]) hvj kv (bs ++ [1000000 * ((cnt : Int) + 1)]) ms (updZ Z n zs) K ∧ Hs3 κk wx (n + 1) hvj (updZ Z n zs) ∧
    (∀ x, x < w.heap.size → (κ x = 200 → (Value.slice al nl nl).ownBlock ≠ some x → κk x = 200) ∧ (κk x ≤ 90 → κ x ≤ 90 ∨ (Value.slice al nl nl).ownBlock = some x)) ∧ But (fun x => κ x ≤ 90 ∨ (Value.slice al nl nl).ownBlock = some x) w wx)
  case first =>
    obtain ⟨i3, hi3, hz3, hs3, hb3⟩ := info_parts infoI
    go_wp2_with fail
    go_region_law (first
      | (refine step_append_lies _ (by rfl) _ _ _ (by rfl) B 3 i3 (.int .i64 0) 1 8 Try.underlying36 hi3 hz3 hs3 hb3 rfl (by decide) _ n (bs.map (Value.int .i64)) (by rfl) (by exact HJ6.out.oB) ⟨wc.heap.size, 0, none⟩ 1 1 [.int .i64 (1000000 * ((cnt : Int) + 1))] (by rfl) (by rfl) (by exact newsV1 wc _ _) (by intro u hu; simp at hu; subst hu; rfl) (by decide) (by unfold maxLen; omega) (by omega) (by simp; omega) (wc.heap.size + 1) (by simp) ?_; intro g5 cap5 w5 ho5 hg5 hlie5 _; have bb := setq (w5 := w5) HJ.out.blk HJ.out.kq (t := 3) (by decide) (((Below.refl _ _).alloc (Nat.le_refl _) (.cells #[.int .i64 (1000000 * ((cnt : Int) + 1))] 3)).drew) hg5 HJ.out.kB; have c5'' := bb.cell 5; have f5'' := bb.frozen 5; simp only [List.getElem?_toArray, List.getElem?_cons_succ, List.getElem?_cons_zero] at c5''; have HO5 := hid ho5; have HG5 : Hid ((wc.alloc (.cells #[.int .i64 (1000000 * ((cnt : Int) + 1))] 3)).drew.grownBy w5 (Value.slice aB n cB).ownBlock) := hg5; have L5 : Hid ((Value.slice aB n cB).ownBlock = some g5 ∨ g5 = wc.heap.size + 1) := hlie5; clear ho5 hg5 hlie5 bb))
    all_goals
      have hwc : w.heap.size ≤ wc.heap.size := HU.out.size
      obtain ⟨J5, G5⟩ := HJ.out.stepB (x := 1000000 * ((cnt : Int) + 1)) ((Below.refl _ _).alloc (Nat.le_refl _) (.cells #[.int .i64 (1000000 * ((cnt : Int) + 1))] 3)).drew HG5.out (by simpa using L5.out) (by unfold OwI; rw [List.map_append]; exact HO5.out)
      have S5 := hid (HS.out.grew G5 (by decide))
      have T5 := hid (show ∀ x, x < w.heap.size → (κ x = 200 → (Value.slice al nl nl).ownBlock ≠ some x → tag κj g5 3 x = 200) ∧ (tag κj g5 3 x ≤ 90 → κ x ≤ 90 ∨ (Value.slice al nl nl).ownBlock = some x) from fun x hx => by
        rw [G5.same x (by omega)]
        exact HT.out x hx)
      have U5 := hid (((HU.out.alloc (.cells #[.int .i64 (1000000 * ((cnt : Int) + 1))] 3)).drew.of_grown HG5.out (fun x hx hxw => (HT.out x hxw).2 (by have := HJ.out.kB x hx; omega))).setCell (p := ⟨q, 5, none⟩) (show κ q ≤ 90 ∨ _ from .inl (by omega)) (.slice (some ⟨g5, 0, none⟩) (n + 1) cap5))
      have J6 := hid J5
      clear J5 G5 q5 q0 ka5 c5'' f5''
      go_wp2_with fail
      go_meet
      exact ⟨_, _, rfl, J6.out, S5.out, T5.out, U5.out⟩
  case rest =>
  obtain ⟨κk, bak, rfl, hJk, hSk, hTk, hUk⟩ := hcut
  have hbl : bs.length = n := by simpa using HJ.out.oB.1
  have q3 := hJk.blk.cell 3
  have q0' := hJk.blk.cell 0
  simp only [List.getElem?_toArray, List.getElem?_cons_succ, List.getElem?_cons_zero] at q3 q0'
  have hZ' : ∀ i, i < n + 1 → (updZ Z n zs i).length ≤ 16777216 ∧ 0 ≤ (bs ++ [1000000 * ((cnt : Int) + 1)]).getD i 0 ∧ (bs ++ [1000000 * ((cnt : Int) + 1)]).getD i 0 ≤ 562949953421312 := fun i hi => by
    by_cases e : i = n
    · subst e
      rw [updZ_at, List.getD_eq_getElem?_getD, List.getElem?_append_right (by omega), hbl, Hnl.out]
      simp
      omega
    · rw [updZ_ne _ _ e, List.getD_eq_getElem?_getD, List.getElem?_append_left (by omega), ← List.getD_eq_getElem?_getD]
      exact HZ.out i (by omega)
  have ec : ((cnt + 1 : Nat) : Int) = (cnt : Int) + 1 := by omega
  have et : ((tot + nl : Nat) : Int) = (tot : Int) + (nl : Int) := by omega
  have HN : Hid (n + 1 ≤ 2 → InS B κk wc q (cnt + 1) (tot + nl) lk) := fun h2 => ⟨n + 1, nK, _, _, _, _, _, _, _, _, _, _, _, _, by rw [ec, et]; exact hJk.toIn, hSk, HK.out, h2, by omega, hZ', HKm.out⟩
  have HW : Hid (Calls Try.prog 51 #[.pointer (some ⟨q, 0, none⟩)] wc fun e w' => e = .returned (.tuple #[]) ∧ ∃ κ', InS B κ' w' q (cnt + 1) (tot + nl) lk ∧ (∀ x, x < w.heap.size → κ x = 200 → (Value.slice al nl nl).ownBlock ≠ some x → κ' x = 200) ∧ But (fun x => κ x ≤ 90 ∨ (Value.slice al nl nl).ownBlock = some x) w w') := by
    refine (iwrite_any B κk wc q ((cnt : Int) + 1) ((tot : Int) + (nl : Int)) lk (n + 1) nK _ _ _ ke ma _ hvj kv _ ms (updZ Z n zs) K (by omega) (by omega) (by omega) (by omega) (fun i hi => (hZ' i hi).1) (fun i hi => (hZ' i hi).2) hJk.toIn hSk HK.out).mono ?_
    rintro e w' ⟨e1, κ', ke', ma', kv', ms', K', h0, hK', hold, hnew, h200, u0⟩
    refine ⟨e1, κ', ⟨0, nK + 2 * (n + 1), _, _, _, ke', ma', [], [], kv', [], ms', _, K', by rw [ec, et]; exact h0, fun i hi => by omega, hK', by omega, by omega, fun i hi => by omega, fun j hj => ?_⟩, fun x hx hk hne => h200 x (by have := hUk.size; omega) ((hTk x hx).1 hk hne), hUk.comp u0 (fun x hx h => (hTk x hx).2 h)⟩
    by_cases e : j < nK
    · rw [(hold j e).1, (hold j e).2]; exact HKm.out j e
    · exact hnew j (by omega) hj
  have HT' := hid hTk
  have HU' := hid hUk
  clear hJk hSk hTk hUk hZ' HS HT HU HJ HJ6 q5 q0 ka5 HK HKm HZ hg200 hlst ec et
  have hn3 : n = 0 ∨ n = 1 ∨ n = 2 := by omega
  clear hc ht hz hmul hnK hn
  generalize (cnt : Int) + 1 = cc at *
  rcases hn3 with rfl | rfl | rfl
  all_goals go_wp2_with fail
  all_goals first
    | (refine Calls.mono HW.out ?_
       rintro e w9 ⟨rfl, h9⟩
       have H9 := hid h9
       clear h9 q3 q0'
       go_wp2
       go_end0
       exact ⟨rfl, H9.out⟩)
    | (go_end0
       exact ⟨rfl, κk, HN.out (by omega), fun x hx => (HT'.out x hx).1, HU'.out⟩)

end Go.Proofs.Yteaebdonnicbkaa
