/-
  THE BOOK: untouched, same.
-/
import Derived.Test.YteaebdonnicbkaaBk0
import Derived.Test.YteaebdonnicbkaaBack
namespace Go.Proofs.Yteaebdonnicbkaa
open Go.RowKit

/-- a row of n slices of bytes, each with what it holds -/
structure RS (S : Nat → Prop) (B : Nat) (w : World) (row : Value) (n : Nat) (vs : List Value) (Z : Nat → List Int) : Prop where
  own : w.ownsRow B 22 1 row n vs
  sl : ∀ i, i < n → Sl S w (vs.getD i (.bool false)) (Z i)
theorem RS.keep {S : Nat → Prop} {B : Nat} {w w' : World} {row : Value} {n : Nat} {vs : List Value} {Z : Nat → List Int} (h : RS S B w row n vs Z) (ho : w'.ownsRow B 22 1 row n vs) (hk : ∀ g, S g → w'.heap[g]? = w.heap[g]?) : RS S B w' row n vs Z := ⟨ho, fun i hi => (h.sl i hi).keep hk⟩
theorem RS.but {X S : Nat → Prop} {B : Nat} {w w' : World} {row : Value} {n : Nat} {vs : List Value} {Z : Nat → List Int} (h : RS S B w row n vs Z) (hb : But X w w') (hS : ∀ g, S g → g < w.heap.size ∧ ¬ X g) (hr : ∀ g, row.ownBlock = some g → ¬ X g) : RS S B w' row n vs Z := by
  refine h.keep ?_ (fun g hg => hb.block g (hS g hg).1 (hS g hg).2)
  obtain ⟨h1, h2⟩ := h.own
  refine ⟨h1, ?_⟩
  rcases h2 with h2 | ⟨g, cap, cur, rfl, hg, hh, r⟩
  · exact .inl h2
  · exact .inr ⟨g, cap, cur, rfl, hg, by rw [hb.block g (Array.getElem?_eq_some_iff.1 hh).1 (hr g rfl)]; exact hh, r⟩
/-- the row's shape, and its cells -/
theorem RS.form {S : Nat → Prop} {B : Nat} {w : World} {row : Value} {n : Nat} {vs : List Value} {Z : Nat → List Int} (h : RS S B w row n vs Z) :
    ∃ a c, row = .slice a n c ∧ (n = 0 ∨ ∃ g, a = some ⟨g, 0, none⟩ ∧ g < w.heap.size ∧ ∀ i, i < n → w.cell? ⟨g, i, none⟩ = some (vs.getD i (.bool false))) := by
  have hl : vs.length = n := by simpa using h.own.1
  rcases h.own.2 with ⟨h1, h2⟩ | ⟨g, cap, cur, h1, _⟩
  · subst h2; exact ⟨none, 0, h1, .inl rfl⟩
  · subst h1
    refine ⟨_, cap, rfl, .inr ⟨g, rfl, (World.ownsRow.lt h.own g rfl).2, fun i hi => ?_⟩⟩
    rw [World.ownsRow.cellAt h.own i (by omega)]
    simp [show i < vs.length by omega]

set_option maxRecDepth 100000 in
set_option maxHeartbeats 2000000 in
theorem same_any (S : Nat → Prop) (B b : Nat) (cnt tot : Int) (bad : Bool) (fr he ma ke wa : Value) (n : Nat) (kv wv : List Value) (Z : Nat → List Int) (w : World) (hn : n ≤ 134217728)
    (hb : Bkb w b cnt tot bad fr he ma ke wa) (hK : RS S B w ke n kv Z) (hW : RS S B w wa n wv Z) (hT : ∀ g, S g → T5 w g) :
    Calls Try.prog 60 #[.pointer (some ⟨b, 0, none⟩)] w fun e w' => e = .returned (.bool true) ∧ But (fun _ => False) w w' := by
  obtain ⟨a1, c1, rfl, f1⟩ := hK.form
  obtain ⟨a2, c2, rfl, f2⟩ := hW.form
  go_enter Try.func60, Try.ntmps60
  go_wp2
  go_loopw [3] (fun i wt => ∃ k : Nat, k ≤ n ∧ i = .int .i64 (k : Int) ∧ But (fun _ => False) w wt) (fun i _ => n - (intOf i).toNat)
  case atStart => exact ⟨0, Nat.zero_le _, rfl, But.refl _ _⟩
  case round =>
    obtain ⟨k, hk, rfl, hbt⟩ := hrel
    have hb' := hb.of_block (hbt.block b hb.lt (fun h => h))
    have b6 := hb'.cell 6
    have b7 := hb'.cell 7
    simp only [List.getElem?_toArray, List.getElem?_cons_succ, List.getElem?_cons_zero] at b6 b7
    by_cases hkn : k < n
    · obtain ⟨g1, rfl, l1, q1⟩ := f1.resolve_left (by omega)
      obtain ⟨g2, rfl, l2, q2⟩ := f2.resolve_left (by omega)
      have q1' := (hbt.cell (p := ⟨g1, k, none⟩) l1 (fun h => h)).trans (q1 k hkn)
      have q2' := (hbt.cell (p := ⟨g2, k, none⟩) l2 (fun h => h)).trans (q2 k hkn)
      have hT' : ∀ g, S g → T5 wr g := fun g hg => (hT g hg).keep (hbt.block g (hT g hg).lt (fun h => h))
      have s1 := (hK.sl k hkn).keep (w' := wr) (fun g hg => hbt.block g (hT g hg).lt (fun h => h))
      have s2 := (hW.sl k hkn).keep (w' := wr) (fun g hg => hbt.block g (hT g hg).lt (fun h => h))
      obtain ⟨a3, c3, e3, _, r3⟩ := s1.rd hT'
      obtain ⟨a4, c4, e4, _, r4⟩ := s2.rd hT'
      rw [e3] at q1'
      rw [e4] at q2'
      have v3 : ∀ q, (convert 22 9 (.slice a3 (Z k).length c3)).run Try.prog (wr.drewN q) = .ok (.string (strOfNums (Z k))) (wr.drewN q) := fun q => conv_str (w := wr.drewN q) r3 c3
      have v4 : ∀ q, (convert 22 9 (.slice a4 (Z k).length c4)).run Try.prog (wr.drewN q) = .ok (.string (strOfNums (Z k))) (wr.drewN q) := fun q => conv_str (w := wr.drewN q) r4 c4
      have hk1 : (k : Int) < (n : Int) := by omega
      clear s1 s2 e3 e4 r3 r4 hT' q1 q2 hT hK hW f1 f2 hb'
      generalize strOfNums (Z k) = st at *
      generalize (Z k).length = m at *
      go_wp2_with fail
      go_quiet (fail)
      go_wp2
      go_roundw
      case rel => exact ⟨k + 1, by omega, by go_num, hbt.drewN _⟩
      case measure => simp [intOf]; omega
    · clear hK hW hT f1 f2
      go_wp2
      go_ret
      exact ⟨rfl, hbt⟩

set_option maxRecDepth 100000 in
set_option maxHeartbeats 4000000 in
theorem untouched_any (S : Nat → Prop) (B b : Nat) (cnt tot : Int) (fr he ma ke wa : Value) (n : Nat) (fv hv : List Value) (Z : Nat → List Int) (w : World) (hn : n ≤ 134217728)
    (hb : Bkb w b cnt tot false fr he ma ke wa) (hF : RS S B w fr n fv Z) (hH : RS S B w he n hv Z) (hT : ∀ g, S g → T5 w g) :
    Calls Try.prog 59 #[.pointer (some ⟨b, 0, none⟩)] w fun e w' => e = .returned (.tuple #[]) ∧ But (fun x => x = b) w w' ∧ Bkb w' b cnt tot false fr he ma ke wa := by
  obtain ⟨a1, c1, rfl, f1⟩ := hF.form
  obtain ⟨a2, c2, rfl, f2⟩ := hH.form
  have nS : ∀ g, S g → g ≠ b := fun g hg => hb.ne_t5 (hT g hg)
  have nF := hb.ne_row hF.own (by decide)
  have nH := hb.ne_row hH.own (by decide)
  go_enter Try.func59, Try.ntmps59
  go_wp2
  go_loopw [2] (fun i wt => ∃ k : Nat, k ≤ n ∧ i = .int .i64 (k : Int) ∧ But (fun x => x = b) w wt ∧ Bkb wt b cnt tot false (.slice a1 n c1) (.slice a2 n c2) ma ke wa) (fun i _ => n - (intOf i).toNat)
  case atStart => exact ⟨0, Nat.zero_le _, rfl, But.refl _ _, hb⟩
  case round =>
    obtain ⟨k, hk, rfl, hbt, hb'⟩ := hrel
    have b2 := hb'.cell 2
    have b3 := hb'.cell 3
    have b4 := hb'.cell 4
    have fz := hb'.frozen 2
    simp only [List.getElem?_toArray, List.getElem?_cons_succ, List.getElem?_cons_zero] at b2 b3 b4
    by_cases hkn : k < n
    · obtain ⟨g1, rfl, l1, q1⟩ := f1.resolve_left (by omega)
      obtain ⟨g2, rfl, l2, q2⟩ := f2.resolve_left (by omega)
      have q1' := (hbt.cell (p := ⟨g1, k, none⟩) l1 (fun h => nF (by rw [← h]; rfl))).trans (q1 k hkn)
      have q2' := (hbt.cell (p := ⟨g2, k, none⟩) l2 (fun h => nH (by rw [← h]; rfl))).trans (q2 k hkn)
      have hkeep : ∀ g, S g → wr.heap[g]? = w.heap[g]? := fun g hg => hbt.block g (hT g hg).lt (nS g hg)
      have hT' : ∀ g, S g → T5 wr g := fun g hg => (hT g hg).keep (hkeep g hg)
      have s1 := (hF.sl k hkn).keep (w' := wr) hkeep
      have s2 := (hH.sl k hkn).keep (w' := wr) hkeep
      obtain ⟨a3, c3, e3, _, r3⟩ := s1.rd hT'
      obtain ⟨a4, c4, e4, _, r4⟩ := s2.rd hT'
      rw [e3] at q1'
      rw [e4] at q2'
      have v3 : (convert 22 9 (.slice a3 (Z k).length c3)).run Try.prog wr.drew = .ok (.string (strOfNums (Z k))) wr.drew := conv_str (w := wr.drew) r3 c3
      have v4 : (convert 22 9 (.slice a4 (Z k).length c4)).run Try.prog wr.drew = .ok (.string (strOfNums (Z k))) wr.drew := conv_str (w := wr.drew) r4 c4
      have hk1 : (k : Int) < (n : Int) := by omega
      have Hset := hid (hb'.set 2 (.bool false))
      have Hbt := hid (hbt.setCell (p := ⟨b, 2, none⟩) rfl (.bool false))
      clear s1 s2 e3 e4 r3 r4 hT' hkeep q1 q2 hT hF hH f1 f2 hb' nS nF nH hbt
      generalize strOfNums (Z k) = st at *
      generalize (Z k).length = m at *
      go_wp2_with fail
      go_region
      all_goals go_wp2
      all_goals
        go_roundw
        case rel => exact ⟨k + 1, by omega, by go_num, Hbt.out.drew, Hset.out⟩
        case measure => simp [intOf]; omega
    · clear hF hH hT f1 f2 nS nF nH
      go_wp2
      go_end0
      exact ⟨rfl, hbt, hb'⟩

end Go.Proofs.Yteaebdonnicbkaa
