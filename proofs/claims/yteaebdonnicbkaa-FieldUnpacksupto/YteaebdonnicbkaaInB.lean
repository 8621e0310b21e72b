/-
  The record of numbers while a list is handed over: its rows may differ in length.
-/
import Derived.Test.YteaebdonnicbkaaIn3
namespace Go.Proofs.Yteaebdonnicbkaa
open Go.RowKit

structure InO (B : Nat) (κ : Nat → Nat) (w : World) (q : Nat) (cnt tot lk : Int) (nF nW nB nK nM : Nat) (fr wa ba ke ma : Value) (fv hv kv : List Value) (bs ms : List Int) (Z K : Nat → List Int) : Prop where
  blk : Inb w q cnt tot fr wa ba lk ke ma
  kq : κ q = 0
  qB : B ≤ q
  oF : w.ownsRow B 36 1 fr nF fv
  kF : ∀ g, fr.ownBlock = some g → κ g = 1
  oW : w.ownsRow B 36 1 wa nW hv
  kW : ∀ g, wa.ownBlock = some g → κ g = 2
  oB : OwI B w ba nB bs
  kB : ∀ g, ba.ownBlock = some g → κ g = 3
  oK : w.ownsRow B 36 1 ke nK kv
  kK : ∀ g, ke.ownBlock = some g → κ g = 4
  oM : OwI B w ma nM ms
  kM : ∀ g, ma.ownBlock = some g → κ g = 5
  fs : ∀ i, i < nF → (fv.getD i (.bool false) = .slice none 0 0 ∧ Z i = []) ∨ ∃ g, fv.getD i (.bool false) = .slice (some ⟨g, 0, none⟩) (Z i).length (Z i).length ∧ Blk .i64 3 w g (Z i) ∧ κ g = 6 + i ∧ B ≤ g
  ks : ∀ j, j < nK → Sl3 κ w (kv.getD j (.bool false)) (K j)
theorem In.toO {B : Nat} {κ : Nat → Nat} {w : World} {q : Nat} {cnt tot lk : Int} {n nK nM : Nat} {fr wa ba ke ma : Value} {fv hv kv : List Value} {bs ms : List Int} {Z K : Nat → List Int} (h : In B κ w q cnt tot lk 0 n nK nM fr wa ba ke ma fv hv kv bs ms Z K) : InO B κ w q cnt tot lk n n n nK nM fr wa ba ke ma fv hv kv bs ms Z K :=
  ⟨h.blk, h.kq, h.qB, h.oF, h.kF, h.oW, h.kW, h.oB, h.kB, h.oK, h.kK, h.oM, h.kM, fun i hi => h.fs i (Nat.zero_le _) hi, h.ks⟩
theorem InO.toIn {B : Nat} {κ : Nat → Nat} {w : World} {q : Nat} {cnt tot lk : Int} {n nK nM : Nat} {fr wa ba ke ma : Value} {fv hv kv : List Value} {bs ms : List Int} {Z K : Nat → List Int} (h : InO B κ w q cnt tot lk n n n nK nM fr wa ba ke ma fv hv kv bs ms Z K) : In B κ w q cnt tot lk 0 n nK nM fr wa ba ke ma fv hv kv bs ms Z K :=
  ⟨h.blk, h.kq, h.qB, h.oF, h.kF, h.oW, h.kW, h.oB, h.kB, h.oK, h.kK, h.oM, h.kM, fun i _ hi => h.fs i hi, h.ks⟩
theorem InO.kept {B : Nat} {κ : Nat → Nat} {w : World} {q : Nat} {cnt tot lk : Int} {nF nW nB nK nM : Nat} {fr wa ba ke ma : Value} {fv hv kv : List Value} {bs ms : List Int} {Z K : Nat → List Int} (h : InO B κ w q cnt tot lk nF nW nB nK nM fr wa ba ke ma fv hv kv bs ms Z K) {w' : World} {t : Nat} (kp : Kp κ t w w') (ht : 200 ≤ t) (hn : nF ≤ 90) : InO B κ w' q cnt tot lk nF nW nB nK nM fr wa ba ke ma fv hv kv bs ms Z K := by
  refine ⟨h.blk.of_block (kp.2 q h.blk.lt (by rw [h.kq]; omega)), h.kq, h.qB, row_kp h.oF h.kF kp (by omega), h.kF, row_kp h.oW h.kW kp (by omega), h.kW, row_kp h.oB h.kB kp (by omega), h.kB, row_kp h.oK h.kK kp (by omega), h.kK, row_kp h.oM h.kM kp (by omega), h.kM, ?_, ?_⟩
  · intro i h2
    rcases h.fs i h2 with q | ⟨g, q1, q2, q3, q4⟩
    · exact .inl q
    · exact .inr ⟨g, q1, q2.of_block (kp.2 g q2.lt (by omega)), q3, q4⟩
  · intro j hj
    exact (h.ks j hj).keep kp.1 (fun g hg hk => kp.2 g hg (by omega)) (fun g _ hk => hk)
theorem InO.drew {B : Nat} {κ : Nat → Nat} {w : World} {q : Nat} {cnt tot lk : Int} {nF nW nB nK nM : Nat} {fr wa ba ke ma : Value} {fv hv kv : List Value} {bs ms : List Int} {Z K : Nat → List Int} (h : InO B κ w q cnt tot lk nF nW nB nK nM fr wa ba ke ma fv hv kv bs ms Z K) (hn : nF ≤ 90) : InO B κ w.drew q cnt tot lk nF nW nB nK nM fr wa ba ke ma fv hv kv bs ms Z K := h.kept (t := 200) ⟨Nat.le_refl _, fun _ _ _ => rfl⟩ (Nat.le_refl _) hn
theorem InO.retag {B : Nat} {κ : Nat → Nat} {w : World} {q : Nat} {cnt tot lk : Int} {nF nW nB nK nM : Nat} {fr wa ba ke ma : Value} {fv hv kv : List Value} {bs ms : List Int} {Z K : Nat → List Int} (h : InO B κ w q cnt tot lk nF nW nB nK nM fr wa ba ke ma fv hv kv bs ms Z K) {κ' : Nat → Nat} (hn : nF ≤ 90) (hκ : ∀ x, x < w.heap.size → κ x ≠ 200 → κ' x = κ x) : InO B κ' w q cnt tot lk nF nW nB nK nM fr wa ba ke ma fv hv kv bs ms Z K := by
  refine ⟨h.blk, by rw [hκ q h.blk.lt (by rw [h.kq]; omega)]; exact h.kq, h.qB, h.oF, fun g hg => ?_, h.oW, fun g hg => ?_, h.oB, fun g hg => ?_, h.oK, fun g hg => ?_, h.oM, fun g hg => ?_, ?_, ?_⟩
  · rw [hκ g (World.ownsRow.lt h.oF g hg).2 (by rw [h.kF g hg]; omega)]; exact h.kF g hg
  · rw [hκ g (World.ownsRow.lt h.oW g hg).2 (by rw [h.kW g hg]; omega)]; exact h.kW g hg
  · rw [hκ g (World.ownsRow.lt h.oB g hg).2 (by rw [h.kB g hg]; omega)]; exact h.kB g hg
  · rw [hκ g (World.ownsRow.lt h.oK g hg).2 (by rw [h.kK g hg]; omega)]; exact h.kK g hg
  · rw [hκ g (World.ownsRow.lt h.oM g hg).2 (by rw [h.kM g hg]; omega)]; exact h.kM g hg
  · intro i h2
    rcases h.fs i h2 with q | ⟨g, q1, q2, q3, q4⟩
    · exact .inl q
    · exact .inr ⟨g, q1, q2, by rw [hκ g q2.lt (by omega)]; exact q3, q4⟩
  · intro j hj
    exact (h.ks j hj).keep (Nat.le_refl _) (fun _ _ _ => rfl) (fun g hg hk => by rw [hκ g hg (by omega)]; exact hk)
theorem InO.setC {B : Nat} {κ : Nat → Nat} {w : World} {q : Nat} {cnt tot lk : Int} {nF nW nB nK nM : Nat} {fr wa ba ke ma : Value} {fv hv kv : List Value} {bs ms : List Int} {Z K : Nat → List Int} (h : InO B κ w q cnt tot lk nF nW nB nK nM fr wa ba ke ma fv hv kv bs ms Z K) (x : Int) : InO B κ (w.setCell ⟨q, 0, none⟩ (.int .i64 x)) q x tot lk nF nW nB nK nM fr wa ba ke ma fv hv kv bs ms Z K := by
  have kp : Kp κ 0 w (w.setCell ⟨q, 0, none⟩ (.int .i64 x)) := Kp.of_but ((But.refl (fun y => y = q) w).setCell (p := ⟨q, 0, none⟩) (show (fun y => y = q) q from rfl) _) (fun g _ e => by rw [e]; exact h.kq)
  have hb := h.blk.set 0 (.int .i64 x)
  refine ⟨by unfold Inb; simpa using hb, h.kq, h.qB, row_kp h.oF h.kF kp (by omega), h.kF, row_kp h.oW h.kW kp (by omega), h.kW, row_kp h.oB h.kB kp (by omega), h.kB, row_kp h.oK h.kK kp (by omega), h.kK, row_kp h.oM h.kM kp (by omega), h.kM, ?_, ?_⟩
  · intro i h2
    rcases h.fs i h2 with q | ⟨g, q1, q2, q3, q4⟩
    · exact .inl q
    · exact .inr ⟨g, q1, q2.of_block (kp.2 g q2.lt (by omega)), q3, q4⟩
  · intro j hj
    exact (h.ks j hj).keep kp.1 (fun g hg hk => kp.2 g hg (by omega)) (fun g _ hk => hk)
theorem InO.setT {B : Nat} {κ : Nat → Nat} {w : World} {q : Nat} {cnt tot lk : Int} {nF nW nB nK nM : Nat} {fr wa ba ke ma : Value} {fv hv kv : List Value} {bs ms : List Int} {Z K : Nat → List Int} (h : InO B κ w q cnt tot lk nF nW nB nK nM fr wa ba ke ma fv hv kv bs ms Z K) (x : Int) : InO B κ (w.setCell ⟨q, 1, none⟩ (.int .i64 x)) q cnt x lk nF nW nB nK nM fr wa ba ke ma fv hv kv bs ms Z K := by
  have kp : Kp κ 0 w (w.setCell ⟨q, 1, none⟩ (.int .i64 x)) := Kp.of_but ((But.refl (fun y => y = q) w).setCell (p := ⟨q, 1, none⟩) (show (fun y => y = q) q from rfl) _) (fun g _ e => by rw [e]; exact h.kq)
  have hb := h.blk.set 1 (.int .i64 x)
  refine ⟨by unfold Inb; simpa using hb, h.kq, h.qB, row_kp h.oF h.kF kp (by omega), h.kF, row_kp h.oW h.kW kp (by omega), h.kW, row_kp h.oB h.kB kp (by omega), h.kB, row_kp h.oK h.kK kp (by omega), h.kK, row_kp h.oM h.kM kp (by omega), h.kM, ?_, ?_⟩
  · intro i h2
    rcases h.fs i h2 with q | ⟨g, q1, q2, q3, q4⟩
    · exact .inl q
    · exact .inr ⟨g, q1, q2.of_block (kp.2 g q2.lt (by omega)), q3, q4⟩
  · intro j hj
    exact (h.ks j hj).keep kp.1 (fun g hg hk => kp.2 g hg (by omega)) (fun g _ hk => hk)
theorem InO.stepF {B : Nat} {κ : Nat → Nat} {w : World} {q : Nat} {cnt tot lk : Int} {nF nW nB nK nM : Nat} {fr wa ba ke ma : Value} {fv hv kv : List Value} {bs ms : List Int} {Z K : Nat → List Int} (h : InO B κ w q cnt tot lk nF nW nB nK nM fr wa ba ke ma fv hv kv bs ms Z K) {w1 w5 : World} (hb : Below w.heap.size w w1) {l : Value} {zs : List Int} (hfl : fv.length = nF) (hlst : (l = .slice none 0 0 ∧ zs = []) ∨ ∃ g, l = .slice (some ⟨g, 0, none⟩) zs.length zs.length ∧ Blk .i64 3 w g zs ∧ κ g = 6 + nF ∧ B ≤ g) {g' c' : Nat} (hg : w1.grownBy w5 fr.ownBlock) (hl : fr.ownBlock = some g' ∨ g' = w1.heap.size)
    (ho : w5.ownsRow B 36 1 (.slice (some ⟨g', 0, none⟩) (nF + 1) c') (nF + 1) (fv ++ [l])) : InO B (tag κ g' 1) (w5.setCell ⟨q, 3, none⟩ (.slice (some ⟨g', 0, none⟩) (nF + 1) c')) q cnt tot lk (nF + 1) nW nB nK nM (.slice (some ⟨g', 0, none⟩) (nF + 1) c') wa ba ke ma (fv ++ [l]) hv kv bs ms (updZ Z nF zs) K ∧ Grew κ (tag κ g' 1) 1 w (w5.setCell ⟨q, 3, none⟩ (.slice (some ⟨g', 0, none⟩) (nF + 1) c')) := by
  have G := grew (j := 3) (u := .slice (some ⟨g', 0, none⟩) (nF + 1) c') h.kq hb hg h.kF hl
  have hb5 := (setq h.blk h.kq (by decide) hb hg h.kF).set 3 (.slice (some ⟨g', 0, none⟩) (nF + 1) c')
  have hne : g' ≠ q := fun e => by
    rcases hl with hl | hl
    · have := h.kF g' hl; rw [e, h.kq] at this; omega
    · have := h.blk.lt; have := hb.size; omega
  refine ⟨⟨by unfold Inb; simpa using hb5, (G.same q h.blk.lt).trans h.kq, h.qB, owns_setCell ho (p := ⟨q, 3, none⟩) (fun e => by simp [Value.ownBlock] at e; exact hne e) _, (fun g hg => by cases hg; exact tag_at κ g' 1), (G.row h.oW h.kW (by decide) (by decide)).1, (G.row h.oW h.kW (by decide) (by decide)).2, (G.row h.oB h.kB (by decide) (by decide)).1, (G.row h.oB h.kB (by decide) (by decide)).2, (G.row h.oK h.kK (by decide) (by decide)).1, (G.row h.oK h.kK (by decide) (by decide)).2, (G.row h.oM h.kM (by decide) (by decide)).1, (G.row h.oM h.kM (by decide) (by decide)).2, ?_, fun j hj => G.sl (by decide) (h.ks j hj)⟩, G⟩
  intro i h2
  by_cases e : i = nF
  · subst e
    rw [updZ_at, show (fv ++ [l]).getD i (.bool false) = l from by rw [List.getD_eq_getElem?_getD, List.getElem?_append_right (by omega), hfl]; simp]
    rcases hlst with q | ⟨g, q1, q2, q3, q4⟩
    · exact .inl q
    · exact .inr ⟨g, q1, (G.blk (by decide) q2 q3).1, (G.blk (by decide) q2 q3).2, q4⟩
  · rw [updZ_ne _ _ e, show (fv ++ [l]).getD i (.bool false) = fv.getD i (.bool false) from by rw [List.getD_eq_getElem?_getD, List.getElem?_append_left (by omega), List.getD_eq_getElem?_getD]]
    rcases h.fs i (by omega) with q | ⟨g, q1, q2, q3, q4⟩
    · exact .inl q
    · exact .inr ⟨g, q1, (G.blk (by decide) q2 q3).1, (G.blk (by decide) q2 q3).2, q4⟩
theorem InO.stepW {B : Nat} {κ : Nat → Nat} {w : World} {q : Nat} {cnt tot lk : Int} {nF nW nB nK nM : Nat} {fr wa ba ke ma : Value} {fv hv kv : List Value} {bs ms : List Int} {Z K : Nat → List Int} (h : InO B κ w q cnt tot lk nF nW nB nK nM fr wa ba ke ma fv hv kv bs ms Z K) {w1 w5 : World} (hb : Below w.heap.size w w1) {l : Value} {g' c' : Nat} (hg : w1.grownBy w5 wa.ownBlock) (hl : wa.ownBlock = some g' ∨ g' = w1.heap.size)
    (ho : w5.ownsRow B 36 1 (.slice (some ⟨g', 0, none⟩) (nW + 1) c') (nW + 1) (hv ++ [l])) : InO B (tag κ g' 2) (w5.setCell ⟨q, 4, none⟩ (.slice (some ⟨g', 0, none⟩) (nW + 1) c')) q cnt tot lk nF (nW + 1) nB nK nM fr (.slice (some ⟨g', 0, none⟩) (nW + 1) c') ba ke ma fv (hv ++ [l]) kv bs ms Z K ∧ Grew κ (tag κ g' 2) 2 w (w5.setCell ⟨q, 4, none⟩ (.slice (some ⟨g', 0, none⟩) (nW + 1) c')) := by
  have G := grew (j := 4) (u := .slice (some ⟨g', 0, none⟩) (nW + 1) c') h.kq hb hg h.kW hl
  have hb5 := (setq h.blk h.kq (by decide) hb hg h.kW).set 4 (.slice (some ⟨g', 0, none⟩) (nW + 1) c')
  have hne : g' ≠ q := fun e => by
    rcases hl with hl | hl
    · have := h.kW g' hl; rw [e, h.kq] at this; omega
    · have := h.blk.lt; have := hb.size; omega
  refine ⟨⟨by unfold Inb; simpa using hb5, (G.same q h.blk.lt).trans h.kq, h.qB, (G.row h.oF h.kF (by decide) (by decide)).1, (G.row h.oF h.kF (by decide) (by decide)).2, owns_setCell ho (p := ⟨q, 4, none⟩) (fun e => by simp [Value.ownBlock] at e; exact hne e) _, (fun g hg => by cases hg; exact tag_at κ g' 2), (G.row h.oB h.kB (by decide) (by decide)).1, (G.row h.oB h.kB (by decide) (by decide)).2, (G.row h.oK h.kK (by decide) (by decide)).1, (G.row h.oK h.kK (by decide) (by decide)).2, (G.row h.oM h.kM (by decide) (by decide)).1, (G.row h.oM h.kM (by decide) (by decide)).2, ?_, fun j hj => G.sl (by decide) (h.ks j hj)⟩, G⟩
  intro i h2
  rcases h.fs i h2 with q | ⟨g, q1, q2, q3, q4⟩
  · exact .inl q
  · exact .inr ⟨g, q1, (G.blk (by decide) q2 q3).1, (G.blk (by decide) q2 q3).2, q4⟩
theorem InO.stepB {B : Nat} {κ : Nat → Nat} {w : World} {q : Nat} {cnt tot lk : Int} {nF nW nB nK nM : Nat} {fr wa ba ke ma : Value} {fv hv kv : List Value} {bs ms : List Int} {Z K : Nat → List Int} (h : InO B κ w q cnt tot lk nF nW nB nK nM fr wa ba ke ma fv hv kv bs ms Z K) {w1 w5 : World} (hb : Below w.heap.size w w1) {x : Int} {g' c' : Nat} (hg : w1.grownBy w5 ba.ownBlock) (hl : ba.ownBlock = some g' ∨ g' = w1.heap.size)
    (ho : OwI B w5 (.slice (some ⟨g', 0, none⟩) (nB + 1) c') (nB + 1) (bs ++ [x])) : InO B (tag κ g' 3) (w5.setCell ⟨q, 5, none⟩ (.slice (some ⟨g', 0, none⟩) (nB + 1) c')) q cnt tot lk nF nW (nB + 1) nK nM fr wa (.slice (some ⟨g', 0, none⟩) (nB + 1) c') ke ma fv hv kv (bs ++ [x]) ms Z K ∧ Grew κ (tag κ g' 3) 3 w (w5.setCell ⟨q, 5, none⟩ (.slice (some ⟨g', 0, none⟩) (nB + 1) c')) := by
  have G := grew (j := 5) (u := .slice (some ⟨g', 0, none⟩) (nB + 1) c') h.kq hb hg h.kB hl
  have hb5 := (setq h.blk h.kq (by decide) hb hg h.kB).set 5 (.slice (some ⟨g', 0, none⟩) (nB + 1) c')
  have hne : g' ≠ q := fun e => by
    rcases hl with hl | hl
    · have := h.kB g' hl; rw [e, h.kq] at this; omega
    · have := h.blk.lt; have := hb.size; omega
  refine ⟨⟨by unfold Inb; simpa using hb5, (G.same q h.blk.lt).trans h.kq, h.qB, (G.row h.oF h.kF (by decide) (by decide)).1, (G.row h.oF h.kF (by decide) (by decide)).2, (G.row h.oW h.kW (by decide) (by decide)).1, (G.row h.oW h.kW (by decide) (by decide)).2, owns_setCell ho (p := ⟨q, 5, none⟩) (fun e => by simp [Value.ownBlock] at e; exact hne e) _, (fun g hg => by cases hg; exact tag_at κ g' 3), (G.row h.oK h.kK (by decide) (by decide)).1, (G.row h.oK h.kK (by decide) (by decide)).2, (G.row h.oM h.kM (by decide) (by decide)).1, (G.row h.oM h.kM (by decide) (by decide)).2, ?_, fun j hj => G.sl (by decide) (h.ks j hj)⟩, G⟩
  intro i h2
  rcases h.fs i h2 with q | ⟨g, q1, q2, q3, q4⟩
  · exact .inl q
  · exact .inr ⟨g, q1, (G.blk (by decide) q2 q3).1, (G.blk (by decide) q2 q3).2, q4⟩
/-- what was held, with one more -/
theorem Hs3.one {κ κ' : Nat → Nat} {t n : Nat} {w w' : World} {hv : List Value} {Z : Nat → List Int} (h : Hs3 κ w n hv Z) (G : Grew κ κ' t w w') (ht : t ≤ 90) (hl : hv.length = n) {v : Value} {zs : List Int} (s : Sl3 κ w v zs) : Hs3 κ' w' (n + 1) (hv ++ [v]) (updZ Z n zs) := by
  intro i hi
  by_cases e : i = n
  · subst e
    rw [updZ_at, show (hv ++ [v]).getD i (.bool false) = v from by rw [List.getD_eq_getElem?_getD, List.getElem?_append_right (by omega), hl]; simp]
    exact G.sl ht s
  · rw [updZ_ne _ _ e, show (hv ++ [v]).getD i (.bool false) = hv.getD i (.bool false) from by rw [List.getD_eq_getElem?_getD, List.getElem?_append_left (by omega), List.getD_eq_getElem?_getD]]
    exact G.sl ht (h i (by omega))
theorem Hs3.grew {κ κ' : Nat → Nat} {t n : Nat} {w w' : World} {hv : List Value} {Z : Nat → List Int} (h : Hs3 κ w n hv Z) (G : Grew κ κ' t w w') (ht : t ≤ 90) : Hs3 κ' w' n hv Z := fun i hi => G.sl ht (h i hi)

end Go.Proofs.Yteaebdonnicbkaa

/-
  append of numbers that are read, onto one's own, as a step of a region that draws.
-/
namespace Go.Proofs.Yteaebdonnicbkaa
open Go.RowKit

theorem step_copyI {ops : Array Oper} {o : Oper} {a : Act} {w : World} {K : Act → World → Prop} {Q : Exit → Act → World → Prop} {E : Prop} (hgd : o.guard = none) (s x : Operand)
    (ho : o.op = .call { callee := .builtin .append, args := #[s, x], argTypes := #[36, 36] }) (B : Nat) (v : Value) (n : Nat) (ys : List Int) (hs : a.eval s = v) (hown : OwI B w v n ys)
    (al : Option Addr) (m c : Nat) (zs : List Int) (hx : a.eval x = .slice al m c) (hl : zs.length = m) (hr : (al = none ∧ m = 0 ∧ c = 0) ∨ ∃ ad, al = some ad ∧ ∀ j u, (zs.map (Value.int .i64))[j]? = some u → w.cell? (ad.add j) = some u)
    (h63 : n + m ≤ 17179869184) (hbase : B ≤ w.heap.size)
    (h : ∀ v' w', OwI B w' v' (n + m) (ys ++ zs) → w.grownBy w' v.ownBlock → K (a.put o.dst v') w') :
    if Region.wanted o (yielded ops a.tmps) = true then Oper.wp Try.prog o a w K Q else E := by
  have hw : Region.wanted o (yielded ops a.tmps) = true := by simp [Region.wanted, hgd]
  rw [if_pos hw]
  obtain ⟨i3, hi3, hz3, hs3, hb3⟩ := info_parts infoI
  rcases hr with ⟨rfl, rfl, rfl⟩ | ⟨ad, rfl, hc⟩
  · obtain rfl : zs = [] := List.length_eq_zero_iff.1 hl
    have hrun := run_append_owned_none (P := Try.prog) (w := w) B 36 o.type 3 i3 1 Try.underlying36 hi3 v n _ hown
    unfold Oper.wp
    simp [execOp, ho, resolve, invoke, builtin, hs, hx, hrun, Result.andThen]
    exact h v w (by rw [List.append_nil]; exact hown) ⟨rfl, rfl, rfl, Nat.le_refl _, fun _ _ _ => rfl⟩
  · obtain ⟨v', w', hrun, r1, r2, _⟩ := run_append_own (P := Try.prog) w B 36 o.type 3 i3 (.int .i64 0) 1 8 Try.underlying36 hi3 hz3 hs3 hb3 rfl (by decide) v n (ys.map (Value.int .i64)) hown ad m c (zs.map (Value.int .i64)) (by rw [List.length_map, hl, Nat.mul_one]) hc (by intro u hu; obtain ⟨y, _, rfl⟩ := List.mem_map.1 hu; rfl) (by unfold maxLen; omega) (by omega) hbase
    unfold Oper.wp
    simp [execOp, ho, resolve, invoke, builtin, hs, hx, hrun, Result.andThen]
    exact h v' w' (by unfold OwI; rw [List.map_append]; exact r1) r2

end Go.Proofs.Yteaebdonnicbkaa
