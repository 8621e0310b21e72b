/-
  lex: word, mark.
-/
import Derived.Test.YtbllaacbeagljaaGreatDoorSc3
namespace Go.Proofs.YtbllaacbeagljaaGreatDoor
open Go.RowKit

/-- what a call that takes a token answers and leaves -/
def TokC (k : Nat) (zs : List Int) (r : Tk × Nat × Int) (w : World) (e : Ending) (w' : World) : Prop :=
  e = .returned (.tuple #[tokV r.1, .int .i64 r.2.2]) ∧ (r.2.2 = 0 → Scn w' k (strOfNums zs) r.2.1) ∧ But (fun x => x = k) w w'
theorem But.into {X Y : Nat → Prop} {w w1 w2 : World} (h : But X w w1) (h2 : But Y w1 w2) (hY : ∀ x, x < w.heap.size → Y x → X x) : But X w w2 :=
  ⟨h2.os.trans h.os, h2.tape.trans h.tape, h2.output.trans h.output, Nat.le_trans h.size h2.size, fun j hj hn => (h2.block j (Nat.lt_of_lt_of_le hj h.size) (fun hy => hn (hY j hj hy))).trans (h.block j hj hn)⟩
theorem tcs_eq (k : Int) (l : List Int) (n a : Int) : Value.agg (tcs k (strOfNums l) n a) = tokV ⟨k, l, n, a⟩ := rfl
theorem tok0_eq (a : Int) : Value.agg (tcs 0 sE 0 a) = tokV (tk0 a) := rfl

set_option maxRecDepth 100000 in
set_option maxHeartbeats 2000000 in
theorem word_any {w : World} {k : Nat} {zs : List Int} {a : Nat} (hb : Pl.isB zs) (hl : zs.length ≤ 16777216) (ha : a < zs.length) (h : Scn w k (strOfNums zs) a) :
    Calls Tryz.prog 173 #[.pointer (some ⟨k, 0, none⟩)] w (TokC k zs (⟨1, subL zs a (pasA isWd zs a), 0, a⟩, pasA isWd zs a, 0) w) := by
  obtain ⟨W0, hW0⟩ : ∃ W0, W0 = w.alloc (.cells (tcs 0 sE 0 0) 227) := ⟨_, rfl⟩
  obtain ⟨R, hR⟩ : ∃ R, R = w.heap.size := ⟨_, rfl⟩
  have b0 : Below w.heap.size w W0 := by rw [hW0]; exact below1 _ _
  have r0 : TkB W0 R 0 sE 0 0 := by rw [hW0, hR]; exact heap_new _ _
  have s0 : Scn W0 k (strOfNums zs) a := by rw [hW0]; exact h.alloc _
  have hkl := h.lt
  have c1 := fun o => (h.alloc o).c1
  obtain ⟨E, hE⟩ : ∃ E, E = pasA isWd zs a := ⟨_, rfl⟩
  have hE1 : a ≤ E := by rw [hE]; exact pasA_ge _ _ _
  have hE2 : E ≤ zs.length := by rw [hE]; exact pasA_le (by omega)
  have hcut := str_cut zs a E
  have hsz := str_size zs
  have HP := hid (pass_any tells48 hb hl (Nat.le_of_lt ha) s0)
  rw [← hE] at HP ⊢
  obtain ⟨PO, hPO⟩ : ∃ PO, PO = TokC k zs (⟨1, subL zs a E, 0, a⟩, E, 0) w := ⟨_, rfl⟩
  rw [← hPO]
  have HF : Hid (∀ w1 w2 : World, Scn w1 k (strOfNums zs) E → But (fun x => x = k) W0 w1 → w1.heap.size = W0.heap.size → w2 = (put4 w1 R 1 (strOfNums (subL zs a E)) 0 a).drew → TkB w2 R 1 (strOfNums (subL zs a E)) 0 a ∧ PO (.returned (.tuple #[.agg (tcs 1 (strOfNums (subL zs a E)) 0 a), .int .i64 0])) w2) := fun w1 w2 h1 h2 h3 h4 => by
    have hp := but_put4 w1 R 1 (strOfNums (subL zs a E)) 0 a
    subst h4
    rw [hPO]
    refine ⟨(r0.keep (h2.block R r0.lt (by omega))).put4 _ _ _ _, rfl, fun _ => (h1.but hp (by omega)).drew, ?_⟩
    exact (((But.of_below b0).trans h2).into hp (fun x hx e => by omega)).drew
  have HT : Hid (∀ w1 : World, But (fun x => x = k) W0 w1 → TkB w1 R 0 sE 0 0) := fun w1 h2 => r0.keep (h2.block R r0.lt (by omega))
  have HW0 := hid hW0
  have HR := hid hR
  have hE1' : (a : Int) ≤ (E : Int) := by omega
  have hE2' : (E : Int) ≤ ((strOfNums zs).size : Int) := by omega
  clear hb h s0 r0 b0 hE hW0 hR hkl hPO
  generalize strOfNums (subL zs a E) = U at *
  generalize strOfNums zs = S at *
  go_enter Tryz.func173, Tryz.ntmps173
  go_wp2_with fail
  rw [← HW0.out, ← HR.out]
  refine Calls.mono HP.out ?_
  rintro e w1 ⟨⟨v, rfl⟩, h1, h2, h3⟩
  have d0 := h1.c0
  have d1 := h1.c1
  have t0 := (HT.out w1 h2).cell 0 _ rfl
  have t1 := (HT.out w1 h2).cell 1 _ rfl
  have t2 := (HT.out w1 h2).cell 2 _ rfl
  have t3 := (HT.out w1 h2).cell 3 _ rfl
  have tf := (HT.out w1 h2).fz
  have HF2 := hid (HF.out w1 _ h1 h2 h3 rfl)
  clear h1 h2 h3 HF HT HP
  go_wp2_with fail
  go_region
  go_wp2_with fail
  exact bodyPost_ret (results_tok rfl _ _ R 1 U 0 a (.int .i64 0) rfl rfl HF2.out.1) rfl HF2.out.2

set_option maxRecDepth 100000 in
set_option maxHeartbeats 2000000 in
theorem mark1_any {w : World} {k : Nat} {zs : List Int} {a : Nat} (hl : zs.length ≤ 16777216) (ha : a < zs.length) (h : Scn w k (strOfNums zs) a) :
    Calls Tryz.prog 170 #[.pointer (some ⟨k, 0, none⟩)] w (TokC k zs (⟨4, subL zs a (a + 1), 0, a⟩, a + 1, 0) w) := by
  obtain ⟨W0, hW0⟩ : ∃ W0, W0 = w.alloc (.cells (tcs 0 sE 0 0) 227) := ⟨_, rfl⟩
  obtain ⟨R, hR⟩ : ∃ R, R = w.heap.size := ⟨_, rfl⟩
  have b0 : Below w.heap.size w W0 := by rw [hW0]; exact below1 _ _
  have r0 : TkB W0 R 0 sE 0 0 := by rw [hW0, hR]; exact heap_new _ _
  have s0 : Scn W0 k (strOfNums zs) a := by rw [hW0]; exact h.alloc _
  have hkl := h.lt
  have c1 := fun o => (h.alloc o).c1
  have f1 := fun o => (h.alloc o).fz 1
  have hcut := str_cut zs a (a + 1)
  have hsz := str_size zs
  obtain ⟨W1, hW1⟩ : ∃ W1, W1 = W0.setCell ⟨k, 1, none⟩ (.int .i64 ((a : Int) + 1)) := ⟨_, rfl⟩
  have s1 : Scn W1 k (strOfNums zs) (a + 1) := by
    rw [hW1]
    have := s0.set (a + 1)
    rwa [show ((a + 1 : Nat) : Int) = (a : Int) + 1 by omega] at this
  have h2 : But (fun x => x = k) W0 W1 := by rw [hW1]; exact set_but _ _ _ _ rfl
  have r1 : TkB W1 R 0 sE 0 0 := r0.keep (h2.block R r0.lt (by omega))
  obtain ⟨PO, hPO⟩ : ∃ PO, PO = TokC k zs (⟨4, subL zs a (a + 1), 0, a⟩, a + 1, 0) w := ⟨_, rfl⟩
  rw [← hPO]
  have HF : Hid (∀ w2 : World, w2 = (put4 W1 R 4 (strOfNums (subL zs a (a + 1))) 0 a).drew → TkB w2 R 4 (strOfNums (subL zs a (a + 1))) 0 a ∧ PO (.returned (.tuple #[.agg (tcs 4 (strOfNums (subL zs a (a + 1))) 0 a), .int .i64 0])) w2) := fun w2 h4 => by
    have hp := but_put4 W1 R 4 (strOfNums (subL zs a (a + 1))) 0 a
    subst h4
    rw [hPO]
    refine ⟨r1.put4 _ _ _ _, rfl, fun _ => (s1.but hp (by omega)).drew, ?_⟩
    exact (((But.of_below b0).trans h2).into hp (fun x hx e => by omega)).drew
  have d0 := s1.c0
  have d1 := s1.c1
  rw [show ((a + 1 : Nat) : Int) = (a : Int) + 1 by omega] at d1
  have t0 := r1.cell 0 _ rfl
  have t1 := r1.cell 1 _ rfl
  have t2 := r1.cell 2 _ rfl
  have t3 := r1.cell 3 _ rfl
  have tf := r1.fz
  have hE2' : (a : Int) + 1 ≤ ((strOfNums zs).size : Int) := by omega
  have hlb : (a : Int) ≤ 16777216 := by omega
  have HF2 := hid (HF.out _ rfl)
  have HW0 := hid hW0
  have HW1 := hid hW1
  have HR := hid hR
  clear h s0 r0 b0 hW0 hR hkl hPO s1 h2 r1 hW1 HF
  generalize strOfNums (subL zs a (a + 1)) = U at *
  generalize strOfNums zs = S at *
  go_enter Tryz.func170, Tryz.ntmps170
  go_wp2_with fail
  rw [← HW0.out, ← HR.out, ← HW1.out]
  go_region
  go_wp2_with fail
  exact bodyPost_ret (results_tok rfl _ _ R 4 U 0 a (.int .i64 0) rfl rfl HF2.out.1) rfl HF2.out.2

end Go.Proofs.YtbllaacbeagljaaGreatDoor
