/-
  Unpack, whatever comes in; what the document answers (function 47).
-/
import Derived.Test.YteaebdonnicbkaaNmb
import Derived.Test.YteaebdonnicbkaaUnpE
import Derived.Test.YteaebdonnicbkaaBkN
namespace Go.Proofs.Yteaebdonnicbkaa
open Go.RowKit

/-- numbers of one's own in a block from B on -/
def OwI (B : Nat) (w : World) (o : Value) (n : Nat) (zs : List Int) : Prop := w.ownsRow B 3 1 o n (zs.map (Value.int .i64))
theorem OwI.nil (B : Nat) (w : World) : OwI B w (.slice none 0 0) 0 [] := ⟨rfl, .inl ⟨rfl, rfl⟩⟩
theorem OwI.len {B : Nat} {w : World} {o : Value} {n : Nat} {zs : List Int} (h : OwI B w o n zs) : zs.length = n := by simpa using h.1
theorem OwI.below {B : Nat} {w w' : World} {o : Value} {n : Nat} {zs : List Int} (h : OwI B w o n zs) (hb : Below w.heap.size w w') : OwI B w' o n zs := owns_below h hb
theorem OwI.alloc {B : Nat} {w : World} {o : Value} {n : Nat} {zs : List Int} (h : OwI B w o n zs) (x : Obj) : OwI B (w.alloc x) o n zs := h.below ((Below.refl _ _).alloc (Nat.le_refl _) _)
theorem OwI.rdi {B : Nat} {w : World} {a : Option Addr} {n c : Nat} {zs : List Int} (h : OwI B w (.slice a n c) n zs) : RdI w.heap.size w a n zs := by
  have hl := h.len
  by_cases h0 : n = 0
  · exact ⟨hl, .inl h0⟩
  · obtain ⟨g, e, _, hg, hc⟩ := owns_cells h (by omega)
    refine ⟨hl, .inr ⟨g, 0, e, hg, fun t ht => ?_⟩⟩
    rw [Nat.zero_add, hc t ht]
    simp [show t < zs.length by omega]
/-- AN APPEND of one number -/
theorem wpI_one {ops : Array Oper} {rest : List Oper} {o : Oper} {a : Act} {Q : Exit → Act → World → Prop} {w : World} (hgd : o.guard = none) (s x : Operand)
    (ho : o.op = .call { callee := .builtin .append, args := #[s, x], argTypes := #[36, 36] }) (B : Nat) (v : Value) (n : Nat) (zs : List Int) (hs : a.eval s = v) (hown : OwI B w v n zs)
    (ad : Addr) (c : Nat) (X : Int) (hx : a.eval x = .slice (some ad) 1 c) (hnews : ∀ j u, [Value.int .i64 X][j]? = some u → w.cell? (ad.add j) = some u)
    (h63 : n + 1 ≤ 4398046511104) (hbase : B ≤ w.heap.size)
    (h : ∀ g cap w', OwI B w' (.slice (some ⟨g, 0, none⟩) (n + 1) cap) (n + 1) (zs ++ [X]) → Below B w w' → wpList Try.prog ops Q rest (a.put o.dst (.slice (some ⟨g, 0, none⟩) (n + 1) cap)) w') :
    wpList Try.prog ops Q (o :: rest) a w := by
  obtain ⟨i3, hi3, hz3, hs3, hb3⟩ := info_parts infoI
  refine wpList_append_lies _ hgd s x 36 ho B 3 i3 (.int .i64 0) 1 8 Try.underlying36 hi3 hz3 hs3 hb3 rfl (by decide) v n (zs.map (Value.int .i64)) hs hown ad 1 c [.int .i64 X] hx rfl hnews (by intro u hu; simp at hu; subst hu; rfl) (by decide) (by unfold maxLen; omega) (by omega) hbase w.heap.size rfl ?_
  intro g cap w' ho' hg hlie _
  exact h g cap w' (by unfold OwI; simpa using ho') ((Below.refl _ _).grown hg hbase (fun k hk => (World.ownsRow.lt hown k hk).1))

def decW (ws : List Int) : Decidable (okW ws) := by unfold okW; exact inferInstance
/-- some value does not fit -/
def highV (zs ws : List Int) : Prop := ∃ k, k < ws.length ∧ 9223372036854775807 < valK zs ws k
def decV (zs ws : List Int) : Decidable (highV zs ws) := by unfold highV; exact inferInstance
/-- what an Unpack answers -/
def unpkR (zs ws : List Int) : Int × List Int :=
  @ite _ (okW ws) (decW ws) (if zs.length ≠ sumW ws then (12, []) else @ite _ (highV zs ws) (decV zs ws) (11, []) (0, vals zs ws ws.length)) (10, [])
theorem unpk_width {zs ws : List Int} (h : ¬ okW ws) : unpkR zs ws = (10, []) := by unfold unpkR; rw [if_neg h]
theorem unpk_size {zs ws : List Int} (h : okW ws) (h2 : zs.length ≠ sumW ws) : unpkR zs ws = (12, []) := by unfold unpkR; rw [if_pos h, if_pos h2]
theorem unpk_value {zs ws : List Int} (h : okW ws) (h2 : zs.length = sumW ws) (h3 : ∃ k, k < ws.length ∧ 9223372036854775807 < valK zs ws k) : unpkR zs ws = (11, []) := by unfold unpkR; rw [if_pos h, if_neg (fun q => q h2), if_pos (show highV zs ws from h3)]
theorem unpk_fine {zs ws : List Int} (h : okW ws) (h2 : zs.length = sumW ws) (h3 : ¬ ∃ k, k < ws.length ∧ 9223372036854775807 < valK zs ws k) : unpkR zs ws = (0, vals zs ws ws.length) := by unfold unpkR; rw [if_pos h, if_neg (fun q => q h2), if_neg (show ¬ highV zs ws from h3)]
theorem unpk_len (zs ws : List Int) : (unpkR zs ws).2.length ≤ ws.length := by
  unfold unpkR
  split
  · split
    · exact Nat.zero_le _
    · split
      · exact Nat.zero_le _
      · exact Nat.le_of_eq (length_vals _ _ _)
  · exact Nat.zero_le _

theorem high_of_top {l : List Int} (hb : Pl.isB l) (hl : l.length = 8) (h : 127 < l.getD 7 0) : 9223372036854775807 < Pl.num l := by
  have e0 := num_drop_step (zs := l) (j := 0) (by omega)
  have e1 := num_drop_step (zs := l) (j := 1) (by omega)
  have e2 := num_drop_step (zs := l) (j := 2) (by omega)
  have e3 := num_drop_step (zs := l) (j := 3) (by omega)
  have e4 := num_drop_step (zs := l) (j := 4) (by omega)
  have e5 := num_drop_step (zs := l) (j := 5) (by omega)
  have e6 := num_drop_step (zs := l) (j := 6) (by omega)
  have e7 := num_drop_step (zs := l) (j := 7) (by omega)
  have e8 : l.drop 8 = [] := List.drop_of_length_le (by omega)
  have bd : ∀ t, 0 ≤ l.getD t 0 ∧ l.getD t 0 < 256 := fun t => by
    have := Pl.isB_getD hb t
    rw [← List.getD_eq_getElem?_getD] at this
    exact this
  have b0 := bd 0
  have b1 := bd 1
  have b2 := bd 2
  have b3 := bd 3
  have b4 := bd 4
  have b5 := bd 5
  have b6 := bd 6
  simp only [Nat.zero_add, Nat.reduceAdd, List.drop_zero] at e0 e1 e2 e3 e4 e5 e6 e7
  rw [e8, Pl.num] at e7
  omega
theorem low_of_not {l : List Int} (hb : Pl.isB l) (hl : l.length ≤ 8) (h : l.length = 8 → l.getD 7 0 ≤ 127) : Pl.num l ≤ 9223372036854775807 := by
  have := (num_all hb hl h 0).2
  rwa [List.drop_zero] at this

end Go.Proofs.Yteaebdonnicbkaa
