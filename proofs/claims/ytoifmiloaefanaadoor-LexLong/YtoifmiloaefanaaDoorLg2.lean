/-
  LexLong: the last calls.
-/
import Derived.Test.YtoifmiloaefanaaDoorLg1
import Derived.Test.YtoifmiloaefanaaDoorTl2
namespace Go.Proofs.YtoifmiloaefanaaDoor
open Go.RowKit

theorem back_call {b : Nat} {w W : World} {l : List Int} (hB : Below b w W) (hb : b ≤ w.heap.size) (h0 : 0 < l.length) (hl : l.length ≤ 3) (h : LetW l) :
    ∃ W1 cv, (convert 9 22 (.string (strOfNums (jnL (List.replicate 16384 l))))).run Tryd.prog W = .ok (.slice (some ⟨W.heap.size, 0, none⟩) (jnL (List.replicate 16384 l)).length cv) W1 ∧
      Calls Tryd.prog 7 #[.slice (some ⟨W.heap.size, 0, none⟩) (jnL (List.replicate 16384 l)).length cv] W1 fun e W2 => ∃ ba bc pl, e = .returned (.tuple #[.slice ba 16384 bc, .int .i64 pl, .int .i64 0]) ∧ Below b w W2 := by
  have hjB : Pl.isB (jnL (List.replicate 16384 l)) := jn_isB h.isB 16383
  have hlen := jn_len l
  have hlx := lexP_words h0 h hl
  obtain ⟨zs, hzs⟩ : ∃ zs, zs = jnL (List.replicate 16384 l) := ⟨_, rfl⟩
  rw [← hzs] at hjB hlen hlx ⊢
  have hz : 0 < zs.length := by omega
  obtain ⟨W1, cv, e1, c1, b1⟩ := conv_bytes zs hjB W
  have z0 := hB.size
  have z1 := b1.size
  refine ⟨W1, cv, e1, ?_⟩
  have hlt : W.heap.size < W1.heap.size := by
    have := c1 0 hz
    by_cases q : W.heap.size < W1.heap.size
    · exact q
    · exfalso
      simp only [World.cell?] at this
      rw [Array.getElem?_eq_none (by omega)] at this
      cases this
  refine (Tokens_any (some ⟨W.heap.size, 0, none⟩) zs.length cv zs W1 (by omega) ⟨rfl, hjB, .inr ⟨W.heap.size, 0, rfl, hlt, fun t ht => by rw [Nat.zero_add]; exact c1 t ht⟩⟩).mono ?_
  rintro e W2 ⟨u, rfl, o1, b2⟩
  obtain ⟨ua, uc, rfl⟩ := o1.form
  rw [hlx.1, hlx.2]
  exact ⟨ua, uc, _, rfl, (hB.trans (b1.mono (by omega))).trans (b2.mono (by omega))⟩
theorem marks_calls {b : Nat} {w W : World} {tb : Nat} {ms : List Int} (hB : Below b w W) (hb : b ≤ w.heap.size) (hblk : Blk .u8 5 W tb ms) (hm : ms.length = 16385) (hmB : Pl.isB ms) (h59 : ∀ t, t < 16385 → ms.getD t 0 = 59) :
    Calls Tryd.prog 7 #[.slice (some ⟨tb, 0, none⟩) 16384 16385] W fun e W1 => ∃ a1 c1 p1, e = .returned (.tuple #[.slice a1 16384 c1, .int .i64 p1, .int .i64 0]) ∧
      Calls Tryd.prog 7 #[.slice (some ⟨tb, 0, none⟩) 16385 16385] W1 fun e W2 => ∃ a2 c2, e = .returned (.tuple #[.slice a2 0 c2, .int .i64 16384, .int .i64 184]) ∧ Below b w W2 := by
  have z0 := hB.size
  have hlt := hblk.lt
  have hk : (ms.take 16384).length = 16384 := by rw [List.length_take]; omega
  have hlx : (lexP (ms.take 16384)).2.2 = 0 ∧ (lexP (ms.take 16384)).1.length = 16384 := by
    unfold lexP
    rw [if_neg (by omega)]
    exact many_marks (fun j hj => by rw [tk_getD (by omega)]; exact h59 j (by omega)) (by omega) 16384 0 (by omega)
  have hov : lexP ms = ([], 16384, 184) := by
    unfold lexP
    rw [if_neg (by omega)]
    exact over_marks (fun j hj => h59 j (by omega)) hm 16384 0 (by omega)
  refine (Tokens_any (some ⟨tb, 0, none⟩) 16384 16385 (ms.take 16384) W (by omega) ⟨hk, Pl.isB_take hmB _, .inr ⟨tb, 0, rfl, hlt, fun t ht => by rw [Nat.zero_add, hblk.cell t (by omega), tk_getD ht]⟩⟩).mono ?_
  rintro e W1 ⟨u, rfl, o1, b1⟩
  obtain ⟨ua, uc, rfl⟩ := o1.form
  rw [hlx.1, hlx.2]
  refine ⟨ua, uc, _, rfl, ?_⟩
  have z1 := b1.size
  have hblk1 : Blk .u8 5 W1 tb ms := hblk.of_block (b1.block tb hlt)
  refine (Tokens_any (some ⟨tb, 0, none⟩) 16385 16385 ms W1 (by omega) ⟨hm, hmB, .inr ⟨tb, 0, rfl, by omega, fun t ht => by rw [Nat.zero_add, hblk1.cell t (by omega)]⟩⟩).mono ?_
  rintro e W2 ⟨u, rfl, o2, b2⟩
  rw [hov] at o2 ⊢
  obtain ⟨va, vc, rfl⟩ := o2.form
  exact ⟨va, vc, rfl, (hB.trans (b1.mono (by omega))).trans (b2.mono (by omega))⟩

end Go.Proofs.YtoifmiloaefanaaDoor
