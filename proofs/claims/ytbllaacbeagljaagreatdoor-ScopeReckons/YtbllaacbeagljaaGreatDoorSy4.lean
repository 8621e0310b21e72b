/-
  syntax: a node's tree; what mayBe asks of one node.
-/
import Derived.Test.YtbllaacbeagljaaGreatDoorSy3
import Derived.Test.YtbllaacbeagljaaGreatDoorWd0
namespace Go.Proofs.YtbllaacbeagljaaGreatDoor
open Go.RowKit

theorem kidsOf_any (k : Int) (w : World) (hG : GA w) : Calls Tryz.prog 120 #[.int .i64 k] w (KdQ k w) := by
  by_cases h1 : k = 1
  · subst h1; exact kidsOf_1 w
  by_cases h11 : k = 11
  · subst h11; exact kidsOf_11 w
  by_cases h3 : k = 3
  · subst h3; exact kidsOf_3 w
  by_cases h10 : k = 10
  · subst h10; exact kidsOf_10 w
  by_cases h12 : k = 12
  · subst h12; exact kidsOf_12 w
  by_cases h27 : k = 27
  · subst h27; exact kidsOf_27 w
  by_cases h28 : k = 28
  · subst h28; exact kidsOf_28 w
  by_cases h2 : k = 2
  · subst h2; exact kidsOf_2 w
  by_cases h5 : k = 5
  · subst h5; exact kidsOf_5 w
  by_cases h7 : k = 7
  · subst h7; exact kidsOf_7 w
  by_cases h9 : k = 9
  · subst h9; exact kidsOf_9 w
  by_cases h4 : k = 4
  · subst h4; exact kidsOf_4 w
  by_cases h6 : k = 6
  · subst h6; exact kidsOf_6 w
  by_cases h29 : k = 29
  · subst h29; exact kidsOf_29 w
  by_cases h33 : k = 33
  · subst h33; exact kidsOf_33 w
  by_cases h34 : k = 34
  · subst h34; exact kidsOf_34 w
  exact kidsOf_oth k w hG (by simp [oth, h1, h11, h3, h10, h2, h5, h7, h9, h4, h6, h29, h33, h12, h27, h28, h34])
/-- the kids that a node of a kind has in a place -/
def kdP (wi : Bool) (k : Int) : List Int × Int × Bool := if wi = true ∧ k = 12 then ([9], 1, false) else kdZ k
theorem Kd.next {B : Nat} {w w' : World} {v : Value} {q : List Int × Int × Bool} (h : Kd B w v q) (hb : Below w.heap.size w w') : Kd B w' v q := by
  obtain ⟨a, h1, h2⟩ := h
  refine ⟨a, h1, ?_⟩
  rcases h2 with h2 | ⟨g, h3, h4, h5⟩
  · exact .inl h2
  · exact .inr ⟨g, h3, h4, h5.of_block (hb.block g h5.lt)⟩
theorem Kd.but {X : Nat → Prop} {B : Nat} {w w' : World} {v : Value} {q : List Int × Int × Bool} (h : Kd B w v q) (hb : But X w w') (hX : ∀ g, B ≤ g → ¬ X g) : Kd B w' v q := by
  obtain ⟨a, h1, h2⟩ := h
  refine ⟨a, h1, ?_⟩
  rcases h2 with h2 | ⟨g, h3, h4, h5⟩
  · exact .inl h2
  · exact .inr ⟨g, h3, h4, h5.of_block (hb.block g h5.lt (hX g h4))⟩
theorem Kd.mono {B B' : Nat} {w : World} {v : Value} {q : List Int × Int × Bool} (h : Kd B w v q) (hb : B' ≤ B) : Kd B' w v q := by
  obtain ⟨a, h1, h2⟩ := h
  refine ⟨a, h1, ?_⟩
  rcases h2 with h2 | ⟨g, h3, h4, h5⟩
  · exact .inl h2
  · exact .inr ⟨g, h3, by omega, h5⟩
def put3 (w : World) (b : Nat) (x y z : Value) : World := ((w.setCell ⟨b, 0, none⟩ x).setCell ⟨b, 1, none⟩ y).setCell ⟨b, 2, none⟩ z
theorem put3_but (w : World) (b : Nat) (x y z : Value) : But (fun k => k = b) w (put3 w b x y z) := (((But.refl (fun k => k = b) w).setCell (p := ⟨b, 0, none⟩) rfl _).setCell (p := ⟨b, 1, none⟩) rfl _).setCell (p := ⟨b, 2, none⟩) rfl _
theorem Cs.p3 {w : World} {b : Nat} {t : TypeId} {x y z x' y' z' : Value} (h : Cs w b t #[x, y, z]) : Cs (put3 w b x' y' z') b t #[x', y', z'] := ((h.set 0 _ rfl).set 1 _ rfl).set 2 _ rfl
def KpQ (wi : Bool) (k : Int) (w : World) (e : Ending) (w' : World) : Prop := (∃ v, e = .returned v ∧ Kd w.heap.size w' v (kdP wi k)) ∧ Below w.heap.size w w'
set_option maxRecDepth 100000 in
set_option maxHeartbeats 2000000 in
theorem placeKids_any (r d k : Int) (wi : Bool) (w : World) (hG : GA w) : Calls Tryz.prog 101 #[.agg #[.int .i64 r, .int .i64 d, .bool wi], .int .i64 k] w (KpQ wi k w) := by
  obtain ⟨PO, hPO⟩ : ∃ PO, PO = KpQ wi k w := ⟨_, rfl⟩
  rw [← hPO]
  have HPO := hid hPO
  clear hPO
  obtain ⟨W, hW⟩ : ∃ W, W = (w.alloc (.cells #[.int .i64 r, .int .i64 d, .bool wi] 144)).alloc (.cells #[.slice none 0 0, .int .i64 0, .bool false] 189) := ⟨_, rfl⟩
  have hbl : Below w.heap.size w W := by rw [hW]; exact below2 _ _ _
  have hGW := hG.next hbl
  have hcs : Cs W (w.heap.size + 1) 189 #[.slice none 0 0, .int .i64 0, .bool false] := by rw [hW]; simpa using Cs.new (w.alloc (.cells #[.int .i64 r, .int .i64 d, .bool wi] 144)) 189 #[.slice none 0 0, .int .i64 0, .bool false]
  by_cases hq : wi = true ∧ k = 12
  · obtain ⟨rfl, rfl⟩ := hq
    have HZ : Hid (kdP true 12 = ([9], 1, false)) := rfl
    have HW := hid hW
    clear hbl hGW hcs hW hG
    go_enter Tryz.func101, Tryz.ntmps101
    go_wp2_with (go_at_call 119; refine (just_any _ _ _ _).mono ?_; rintro e w2 ⟨rfl, rfl⟩)
    refine bodyPost_ret (results_cell_row rfl _ _ (w.heap.size + 1) 189 _ (0, 0) _ rfl (by simpa using heap3 (w.alloc (.cells #[.int .i64 r, .int .i64 d, .bool true] 144)) _ _ _) Tryz.underlying189 rfl (by kernel_rfl)) rfl ?_
    rw [HPO.out]
    have hb1 := below1 w (.cells #[.int .i64 r, .int .i64 d, .bool true] 144)
    refine ⟨⟨_, rfl, ?_⟩, hb1.trans ((below3 _ _ _ _).mono hb1.size)⟩
    rw [HZ.out]
    refine ⟨_, rfl, .inr ⟨_, rfl, by omega, Blk.alloc ?_ _⟩⟩
    simpa using blk2 (w.alloc (.cells #[.int .i64 r, .int .i64 d, .bool true] 144)) (.cells #[.slice (some ⟨w.heap.size + 1 + 1, 0, none⟩) 1 1, .int .i64 1, .bool false] 189) [9] _ rfl
  · have HZ : Hid (kdP wi k = kdZ k) := if_neg hq
    have HC := hid (kidsOf_any k W hGW)
    have HB := hid hbl
    have HCs := hid hcs
    have HW := hid hW
    have hq' : (wi && k == 12) = false := by
      cases wi <;> simp_all
    clear hbl hGW hcs hW hG
    cases wi with
    | false =>
      clear hq hq'
      go_enter Tryz.func101, Tryz.ntmps101
      go_wp2_with fail
      rw [← HW.out]
      refine Calls.mono HC.out ?_
      rintro e w2 ⟨⟨v, rfl, a, rfl, hrow⟩, hb2⟩
      have hc2 := HCs.out.next hb2
      have c0 := hc2.cell 0 _ rfl
      have c1 := hc2.cell 1 _ rfl
      have c2 := hc2.cell 2 _ rfl
      have f0 := hc2.fz 0
      have f1 := hc2.fz 1
      have f2 := hc2.fz 2
      have HK : Hid (Kd W.heap.size w2 (.agg #[.slice a (kdZ k).1.length (kdZ k).1.length, .int .i64 (kdZ k).2.1, .bool (kdZ k).2.2]) (kdZ k)) := ⟨a, rfl, hrow⟩
      have HB2 := hid (HB.out.trans (hb2.mono HB.out.size))
      have HC2 := hid hc2
      have HS : Hid (w.heap.size + 2 = W.heap.size) := hid (by rw [HW.out]; simp)
      clear hrow hb2 hc2 HC HW
      obtain ⟨q, hq⟩ : ∃ q, q = kdZ k := ⟨_, rfl⟩
      rw [← hq] at HK HZ ⊢
      clear hq
      obtain ⟨rs, le, op⟩ := q
      simp only at HK HZ ⊢
      go_wp2_with fail
      have hp := put3_but w2 (w.heap.size + 1) (.slice a rs.length rs.length) (.int .i64 le) (.bool op)
      refine bodyPost_ret (results_cell_row rfl _ _ (w.heap.size + 1) 189 _ (0, 0) _ rfl (HC2.out.p3 (x' := .slice a rs.length rs.length) (y' := .int .i64 le) (z' := .bool op)) Tryz.underlying189 rfl (by kernel_rfl)) rfl ?_
      rw [HPO.out]
      refine ⟨⟨_, rfl, ?_⟩, HB2.out.trans (hp.below HB2.out.size (fun k hk e => by omega))⟩
      rw [HZ.out]
      exact (HK.out.but hp (fun g hg e => by have := HS.out; omega)).mono (by have := HS.out; omega)
    | true =>
      have hk : (k == 12) = false := by simpa using hq'
      clear hq hq'
      go_enter Tryz.func101, Tryz.ntmps101
      go_wp2_with fail
      rw [← HW.out]
      refine Calls.mono HC.out ?_
      rintro e w2 ⟨⟨v, rfl, a, rfl, hrow⟩, hb2⟩
      have hc2 := HCs.out.next hb2
      have c0 := hc2.cell 0 _ rfl
      have c1 := hc2.cell 1 _ rfl
      have c2 := hc2.cell 2 _ rfl
      have f0 := hc2.fz 0
      have f1 := hc2.fz 1
      have f2 := hc2.fz 2
      have HK : Hid (Kd W.heap.size w2 (.agg #[.slice a (kdZ k).1.length (kdZ k).1.length, .int .i64 (kdZ k).2.1, .bool (kdZ k).2.2]) (kdZ k)) := ⟨a, rfl, hrow⟩
      have HB2 := hid (HB.out.trans (hb2.mono HB.out.size))
      have HC2 := hid hc2
      have HS : Hid (w.heap.size + 2 = W.heap.size) := hid (by rw [HW.out]; simp)
      clear hrow hb2 hc2 HC HW
      obtain ⟨q, hq⟩ : ∃ q, q = kdZ k := ⟨_, rfl⟩
      rw [← hq] at HK HZ ⊢
      clear hq
      obtain ⟨rs, le, op⟩ := q
      simp only at HK HZ ⊢
      go_wp2_with fail
      have hp := put3_but w2 (w.heap.size + 1) (.slice a rs.length rs.length) (.int .i64 le) (.bool op)
      refine bodyPost_ret (results_cell_row rfl _ _ (w.heap.size + 1) 189 _ (0, 0) _ rfl (HC2.out.p3 (x' := .slice a rs.length rs.length) (y' := .int .i64 le) (z' := .bool op)) Tryz.underlying189 rfl (by kernel_rfl)) rfl ?_
      rw [HPO.out]
      refine ⟨⟨_, rfl, ?_⟩, HB2.out.trans (hp.below HB2.out.size (fun k hk e => by omega))⟩
      rw [HZ.out]
      exact (HK.out.but hp (fun g hg e => by have := HS.out; omega)).mono (by have := HS.out; omega)

end Go.Proofs.YtbllaacbeagljaaGreatDoor
