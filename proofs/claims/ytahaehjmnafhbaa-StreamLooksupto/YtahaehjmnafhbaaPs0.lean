/-
  The document's answer: Parse: the walk up to the tape.
-/
import Derived.Test.YtahaehjmnafhbaaMa0
import Derived.Test.YtahaehjmnafhbaaEq0
import Derived.Test.YtahaehjmnafhbaaCt0
namespace Go.Proofs.Ytahaehjmnafhbaa
open Go.RowKit

/-- a block that holds no stream -/
structure Zs (w : World) (r : Nat) : Prop where
  c0 : w.cell? ⟨r, 0, none⟩ = some (.string ⟨#[]⟩)
  c1 : w.cell? ⟨r, 1, none⟩ = some (.int .i64 0)
  c2 : w.cell? ⟨r, 2, none⟩ = some (.string ⟨#[]⟩)
  c3 : w.cell? ⟨r, 3, none⟩ = some (.int .i64 0)
  c4 : w.cell? ⟨r, 4, none⟩ = some (.slice none 0 0)
  fz : ∀ t, w.frozen? ⟨r, t, none⟩ = false
theorem Zs.of {w : World} {r : Nat} (h : w.heap[r]? = some (.cells #[.string ⟨#[]⟩, .int .i64 0, .string ⟨#[]⟩, .int .i64 0, .slice none 0 0] 47 (0, 0))) : Zs w r :=
  ⟨by simp [World.cell?, h], by simp [World.cell?, h], by simp [World.cell?, h], by simp [World.cell?, h], by simp [World.cell?, h], fun t => by simp [World.frozen?, h]⟩
/-- the loop's chain -/
def LoopC (LI : Nat → World → Prop) (S1 S2 : ByteArray) (sz sm : Int) (cn r0 kk sb : Nat) (PO : Ending → World → Prop) : Prop :=
  (∀ q wt, LI q wt → ∃ bad, wt.cell? ⟨kk, 1, none⟩ = some (.bool bad) ∧
    (q < cn → bad = false → Calls Try.prog 22 #[.pointer (some ⟨kk, 0, none⟩), .int .i64 1] wt fun e w1 => ∃ k, e = .returned (.int .i64 k) ∧ ∃ w2 rb, w2 = w1.alloc (.cells #[.int .i64 k, .int .i64 0, .int .i64 0, .slice none 0 0] 51) ∧ rb = w1.heap.size ∧
      Calls Try.prog 22 #[.pointer (some ⟨kk, 0, none⟩), .int .i64 4] w2 fun e w3 => ∃ f, e = .returned (.int .i64 f) ∧ w3.cell? ⟨rb, 1, none⟩ = some (.int .i64 0) ∧ w3.frozen? ⟨rb, 1, none⟩ = false ∧
      Calls Try.prog 22 #[.pointer (some ⟨kk, 0, none⟩), .int .i64 4] (w3.setCell ⟨rb, 1, none⟩ (.int .i64 f)) fun e w4 => ∃ t, e = .returned (.int .i64 t) ∧ 0 ≤ f ∧ t < 4294967296 ∧ w4.cell? ⟨rb, 2, none⟩ = some (.int .i64 0) ∧ w4.frozen? ⟨rb, 2, none⟩ = false ∧
      ∃ w5, w5 = w4.setCell ⟨rb, 2, none⟩ (.int .i64 t) ∧ w5.cell? ⟨rb, 0, none⟩ = some (.int .i64 k) ∧ w5.cell? ⟨rb, 1, none⟩ = some (.int .i64 f) ∧ w5.cell? ⟨rb, 2, none⟩ = some (.int .i64 t) ∧
      (k = 1 → f < t → Calls Try.prog 21 #[.pointer (some ⟨kk, 0, none⟩), .int .i64 (512 * (t - f))] w5 fun e w6 => ∃ a6 n6 c6, e = .returned (.slice a6 n6 c6) ∧ (∃ v, w6.cell? ⟨rb, 3, none⟩ = some v) ∧ w6.frozen? ⟨rb, 3, none⟩ = false ∧ ∃ w7, w7 = w6.setCell ⟨rb, 3, none⟩ (.slice a6 n6 c6) ∧ ∃ rv vals B dx dy dz, w7.cell? ⟨rb, 0, none⟩ = some (.int .i64 k) ∧ w7.cell? ⟨rb, 1, none⟩ = some (.int .i64 f) ∧ w7.cell? ⟨rb, 2, none⟩ = some (.int .i64 t) ∧ w7.cell? ⟨rb, 3, none⟩ = some (.slice dx dy dz) ∧ w7.cell? ⟨sb, 4, none⟩ = some rv ∧ B ≤ w7.heap.size ∧ (w7.alloc (.cells #[.int .i64 k, .int .i64 f, .int .i64 t, .slice dx dy dz] 51)).ownsRow B 51 4 rv q vals ∧ ∀ u g cap, u.ownsRow B 51 4 (.slice (some ⟨g, 0, none⟩) (q + 1) cap) (q + 1) (vals ++ [.int .i64 k, .int .i64 f, .int .i64 t, .slice dx dy dz]) → (w7.alloc (.cells #[.int .i64 k, .int .i64 f, .int .i64 t, .slice dx dy dz] 51)).grownBy u (Value.ownBlock rv) → (Value.ownBlock rv = some g ∨ g = w7.heap.size + 1) → u.cell? ⟨sb, 4, none⟩ = some rv ∧ u.frozen? ⟨sb, 4, none⟩ = false ∧ LI (q + 1) (u.setCell ⟨sb, 4, none⟩ (.slice (some ⟨g, 0, none⟩) (q + 1) cap))) ∧
      (¬ (k = 1 ∧ f < t) → ∃ rv vals B dx dy dz, w5.cell? ⟨rb, 0, none⟩ = some (.int .i64 k) ∧ w5.cell? ⟨rb, 1, none⟩ = some (.int .i64 f) ∧ w5.cell? ⟨rb, 2, none⟩ = some (.int .i64 t) ∧ w5.cell? ⟨rb, 3, none⟩ = some (.slice dx dy dz) ∧ w5.cell? ⟨sb, 4, none⟩ = some rv ∧ B ≤ w5.heap.size ∧ (w5.alloc (.cells #[.int .i64 k, .int .i64 f, .int .i64 t, .slice dx dy dz] 51)).ownsRow B 51 4 rv q vals ∧ ∀ u g cap, u.ownsRow B 51 4 (.slice (some ⟨g, 0, none⟩) (q + 1) cap) (q + 1) (vals ++ [.int .i64 k, .int .i64 f, .int .i64 t, .slice dx dy dz]) → (w5.alloc (.cells #[.int .i64 k, .int .i64 f, .int .i64 t, .slice dx dy dz] 51)).grownBy u (Value.ownBlock rv) → (Value.ownBlock rv = some g ∨ g = w5.heap.size + 1) → u.cell? ⟨sb, 4, none⟩ = some rv ∧ u.frozen? ⟨sb, 4, none⟩ = false ∧ LI (q + 1) (u.setCell ⟨sb, 4, none⟩ (.slice (some ⟨g, 0, none⟩) (q + 1) cap)))) ∧
    (q = cn ∨ bad = true → ∃ a9 n9 c9 ra rc, wt.cell? ⟨kk, 0, none⟩ = some (.slice a9 n9 c9) ∧ (wt.cell? ⟨sb, 0, none⟩ = some (.string S1) ∧ wt.cell? ⟨sb, 1, none⟩ = some (.int .i64 sz) ∧ wt.cell? ⟨sb, 2, none⟩ = some (.string S2) ∧ wt.cell? ⟨sb, 3, none⟩ = some (.int .i64 sm) ∧ wt.cell? ⟨sb, 4, none⟩ = some (.slice ra q rc)) ∧ wt.heap[r0]? = some (.cells #[.string ⟨#[]⟩, .int .i64 0, .string ⟨#[]⟩, .int .i64 0, .slice none 0 0] 47 (0, 0)) ∧ (bad = true ∨ 0 < n9 → PO (.returned (.tuple #[.agg #[.string ⟨#[]⟩, .int .i64 0, .string ⟨#[]⟩, .int .i64 0, .slice none 0 0], .int .i64 150])) (set5 wt r0 (.string ⟨#[]⟩) (.int .i64 0) (.string ⟨#[]⟩) (.int .i64 0) (.slice none 0 0))) ∧
      (bad = false → n9 = 0 → Calls Try.prog 23 #[.agg #[.string S1, .int .i64 sz, .string S2, .int .i64 sm, .slice ra q rc]] wt fun e w1 => ∃ my, e = .returned (.bool my) ∧ w1.heap[r0]? = some (.cells #[.string ⟨#[]⟩, .int .i64 0, .string ⟨#[]⟩, .int .i64 0, .slice none 0 0] 47 (0, 0)) ∧ (my = false → PO (.returned (.tuple #[.agg #[.string ⟨#[]⟩, .int .i64 0, .string ⟨#[]⟩, .int .i64 0, .slice none 0 0], .int .i64 150])) (set5 w1 r0 (.string ⟨#[]⟩) (.int .i64 0) (.string ⟨#[]⟩) (.int .i64 0) (.slice none 0 0))) ∧ (my = true → (w1.cell? ⟨sb, 0, none⟩ = some (.string S1) ∧ w1.cell? ⟨sb, 1, none⟩ = some (.int .i64 sz) ∧ w1.cell? ⟨sb, 2, none⟩ = some (.string S2) ∧ w1.cell? ⟨sb, 3, none⟩ = some (.int .i64 sm) ∧ w1.cell? ⟨sb, 4, none⟩ = some (.slice ra q rc)) ∧ PO (.returned (.tuple #[.agg #[.string S1, .int .i64 sz, .string S2, .int .i64 sm, .slice ra q rc], .int .i64 0])) (set5 w1 r0 (.string S1) (.int .i64 sz) (.string S2) (.int .i64 sm) (.slice ra q rc))))))
/-- the tape's chain -/
def TailC (S1 S2 : ByteArray) (sz sm : Int) (cn r0 kk sb : Nat) (PO : Ending → World → Prop) (w : World) : Prop :=
  Calls Try.prog 22 #[.pointer (some ⟨kk, 0, none⟩), .int .i64 1] w fun e w1 => ∃ n1, e = .returned (.int .i64 n1) ∧ Calls Try.prog 21 #[.pointer (some ⟨kk, 0, none⟩), .int .i64 n1] w1 fun e w2 => ∃ a n c, e = .returned (.slice a n c) ∧ (Sem.run Try.prog (convert 22 9 (.slice a n c)) w2 = .ok (.string S1) w2) ∧ w2.cell? ⟨sb, 0, none⟩ = some (.string ⟨#[]⟩) ∧ w2.frozen? ⟨sb, 0, none⟩ = false ∧
  Calls Try.prog 22 #[.pointer (some ⟨kk, 0, none⟩), .int .i64 4] (w2.setCell ⟨sb, 0, none⟩ (.string S1)) fun e w3 => e = .returned (.int .i64 sz) ∧ w3.cell? ⟨sb, 1, none⟩ = some (.int .i64 0) ∧ w3.frozen? ⟨sb, 1, none⟩ = false ∧
  Calls Try.prog 22 #[.pointer (some ⟨kk, 0, none⟩), .int .i64 1] (w3.setCell ⟨sb, 1, none⟩ (.int .i64 sz)) fun e w4 => ∃ n2, e = .returned (.int .i64 n2) ∧ Calls Try.prog 21 #[.pointer (some ⟨kk, 0, none⟩), .int .i64 n2] w4 fun e w5 => ∃ a n c, e = .returned (.slice a n c) ∧ (Sem.run Try.prog (convert 22 9 (.slice a n c)) w5 = .ok (.string S2) w5) ∧ w5.cell? ⟨sb, 2, none⟩ = some (.string ⟨#[]⟩) ∧ w5.frozen? ⟨sb, 2, none⟩ = false ∧
  Calls Try.prog 22 #[.pointer (some ⟨kk, 0, none⟩), .int .i64 4] (w5.setCell ⟨sb, 2, none⟩ (.string S2)) fun e w6 => e = .returned (.int .i64 sm) ∧ w6.cell? ⟨sb, 3, none⟩ = some (.int .i64 0) ∧ w6.frozen? ⟨sb, 3, none⟩ = false ∧
  Calls Try.prog 22 #[.pointer (some ⟨kk, 0, none⟩), .int .i64 4] (w6.setCell ⟨sb, 3, none⟩ (.int .i64 sm)) fun e w7 => e = .returned (.int .i64 (cn : Int)) ∧ ∃ LI : Nat → World → Prop, LI 0 w7 ∧ LoopC LI S1 S2 sz sm cn r0 kk sb PO
theorem info51 : (Try.prog.info? 51).map (fun i => (i.zero, i.size, i.bytes)) = some (some (.agg #[.int .i64 0, .int .i64 0, .int .i64 0, .slice none 0 0]), 4, 48) := by kernel_rfl
theorem news4 (w : World) (S : Nat) (hS : w.heap.size = S) (a b c d : Value) (t : TypeId) : ∀ j y, [a, b, c, d][j]? = some y → (w.alloc (.cells #[a, b, c, d] t)).cell? ((⟨S, 0, none⟩ : Addr).add j) = some y := by
  intro j y hy
  rw [Addr.add_lit, Nat.zero_add]
  exact cell_new hS j _ (by simpa using hy)

set_option maxRecDepth 100000 in
set_option maxHeartbeats 4000000 in
theorem parse_walk (b off n c : Nat) (C : Int) (M D2 : ByteArray) (nm ne : Bool) (S1 S2 : ByteArray) (sz sm : Int) (cn : Nat) (w : World) (PO : Ending → World → Prop) (hnc : n ≤ c) (hn : n ≤ 16777216) (hcn : cn < 4294967296)
    (HN : Hid (∃ wA r0, wA = w.alloc (.cells #[.string ⟨#[]⟩, .int .i64 0, .string ⟨#[]⟩, .int .i64 0, .slice none 0 0] 47) ∧ r0 = w.heap.size ∧ wA.heap[r0]? = some (.cells #[.string ⟨#[]⟩, .int .i64 0, .string ⟨#[]⟩, .int .i64 0, .slice none 0 0] 47 (0, 0)) ∧ (n < 4 → PO (.returned (.tuple #[.agg #[.string ⟨#[]⟩, .int .i64 0, .string ⟨#[]⟩, .int .i64 0, .slice none 0 0], .int .i64 150])) wA) ∧ (4 ≤ n → (Sem.run Try.prog (convert 22 9 (.slice (some ⟨b, off, none⟩) 4 c)) wA = .ok (.string M) wA) ∧ (!(M.toList == ([67, 83, 84, 49] : List UInt8))) = nm ∧ (nm = true → PO (.returned (.tuple #[.agg #[.string ⟨#[]⟩, .int .i64 0, .string ⟨#[]⟩, .int .i64 0, .slice none 0 0], .int .i64 150])) wA) ∧ (nm = false → ∃ m, n = m + 4 ∧ (m < 4 → PO (.returned (.tuple #[.agg #[.string ⟨#[]⟩, .int .i64 0, .string ⟨#[]⟩, .int .i64 0, .slice none 0 0], .int .i64 151])) (set5 wA r0 (.string ⟨#[]⟩) (.int .i64 0) (.string ⟨#[]⟩) (.int .i64 0) (.slice none 0 0)).drew) ∧ (4 ≤ m → (Sem.run Try.prog (convert 22 9 (.slice (some ⟨b, off + m, none⟩) 4 (c - m))) wA.drew = .ok (.string D2) wA.drew) ∧ Calls Try.prog 20 #[.slice (some ⟨b, off, none⟩) m c] wA.drew fun e w1 => e = .returned (.int .i64 C) ∧ (Sem.run Try.prog (convert 22 9 (.slice (some ⟨b, off + m, none⟩) 4 (c - m))) w1 = .ok (.string D2) w1) ∧ Calls Try.prog 19 #[.int .i64 C] w1 fun e w2 => ∃ g D1, e = .returned (.slice (some ⟨g, 0, none⟩) 4 4) ∧ (Sem.run Try.prog (convert 22 9 (.slice (some ⟨b, off + m, none⟩) 4 (c - m))) w2 = .ok (.string D2) w2) ∧ (Sem.run Try.prog (convert 22 9 (.slice (some ⟨g, 0, none⟩) 4 4)) w2 = .ok (.string D1) w2) ∧ (!(D1.toList == D2.toList)) = ne ∧ w2.heap[r0]? = some (.cells #[.string ⟨#[]⟩, .int .i64 0, .string ⟨#[]⟩, .int .i64 0, .slice none 0 0] 47 (0, 0)) ∧ (ne = true → PO (.returned (.tuple #[.agg #[.string ⟨#[]⟩, .int .i64 0, .string ⟨#[]⟩, .int .i64 0, .slice none 0 0], .int .i64 151])) (set5 w2 r0 (.string ⟨#[]⟩) (.int .i64 0) (.string ⟨#[]⟩) (.int .i64 0) (.slice none 0 0))) ∧ (ne = false → ∃ w3 w4 kk sb, w3 = w2.alloc (.cells #[.slice (some ⟨b, off + 4, none⟩) (m - 4) (c - 4), .bool false] 63) ∧ w4 = w3.alloc (.cells #[.string ⟨#[]⟩, .int .i64 0, .string ⟨#[]⟩, .int .i64 0, .slice none 0 0] 47) ∧ kk = w2.heap.size ∧ sb = kk + 1 ∧ TailC S1 S2 sz sm cn r0 kk sb PO w4)))))) :
    Calls Try.prog 13 #[.slice (some ⟨b, off, none⟩) n c] w PO := by
  obtain ⟨wA, r0, hwA, hr0, hz, h3, h4⟩ := HN
  have HA := hid hwA
  have HR := hid hr0
  have HZ := hid hz
  have H3 := hid h3
  have H4 := hid h4
  clear hwA hr0 hz h3 h4
  by_cases q4 : n < 4
  · have FN := hid (H3.out q4)
    have FH := HZ
    have q5 : (n : Int) < 4 := by omega
    clear H3 H4
    go_enter Try.func13, Try.ntmps13
    go_wp2_with fail
    rw [← HA.out, ← HR.out]
    exact bodyPost_ret (results_row_tmp rfl _ _ r0 47 #[.string ⟨#[]⟩, .int .i64 0, .string ⟨#[]⟩, .int .i64 0, .slice none 0 0] (0, 0) _ (.int .i64 150) rfl rfl FH.out Try.underlying47 rfl (by kernel_rfl)) rfl FN.out
  obtain ⟨hcv, hM, hnm, hm⟩ := H4.out (by omega)
  rw [HA.out] at hcv
  have HNM := hid hnm
  have HM := hid hm
  have q5 : ¬ (n : Int) < 4 := by omega
  have q6 : (4 : Int) ≤ (c : Int) := by omega
  clear H3 H4 hnm hm
  cases nm
  case true =>
    have FN := hid (HNM.out rfl)
    have FH := HZ
    clear HNM HM
    go_enter Try.func13, Try.ntmps13
    go_wp2_with fail
    rw [← HA.out, ← HR.out]
    exact bodyPost_ret (results_row_tmp rfl _ _ r0 47 #[.string ⟨#[]⟩, .int .i64 0, .string ⟨#[]⟩, .int .i64 0, .slice none 0 0] (0, 0) _ (.int .i64 150) rfl rfl FH.out Try.underlying47 rfl (by kernel_rfl)) rfl FN.out
  case false =>
  obtain ⟨m, rfl, h1, h2⟩ := HM.out rfl
  have H1 := hid h1
  have H2 := hid h2
  clear h1 h2 HNM HM
  go_enter Try.func13, Try.ntmps13
  go_wp2_with fail
  rw [← HA.out, ← HR.out]
  clear hcv hM HA HR
  by_cases hm4 : m < 4
  · have FN := hid (H1.out hm4)
    have FH := hid (show (set5 wA r0 (.string ⟨#[]⟩) (.int .i64 0) (.string ⟨#[]⟩) (.int .i64 0) (.slice none 0 0)).drew.heap[r0]? = some (.cells #[.string ⟨#[]⟩, .int .i64 0, .string ⟨#[]⟩, .int .i64 0, .slice none 0 0] 47 (0, 0)) from set5_heap HZ.out (.string ⟨#[]⟩) (.int .i64 0) (.string ⟨#[]⟩) (.int .i64 0) (.slice none 0 0))
    have hm5 : (m : Int) < 4 := by omega
    clear H1 H2
    refine wp_region_held_drew (S := fun _ => True) (by kernel_rfl) trivial (fun hSS => ?_)
    refine wpAnyH_take (i := 0) (oi := ({ dst := some 23, op := Op.move (Operand.tmp 4), type := 3, pos := _, after := _, guard := none } : Oper)) (v := ?_) rfl (by kernel_rfl) (by kernel_rfl) (by kernel_rfl) (fun _ _ _ h => h) (Or.inl ⟨by rfl, ?_⟩) hSS ?_
    rotate_left
    · intro w9 hSw
      (try dsimp only at hSw)
      (try go_split_ands)
      first | (go_simp; done) | (go_simp; with_reducible rfl)
    try simp only [Act.put, List.setIfInBounds_toArray, List.set_cons_zero, List.set_cons_succ]
    refine wpAnyH_take (i := 1) (oi := ({ dst := some 24, op := Op.binOp BinOp.lss 3 (Operand.tmp 23) (Operand.const (Value.int IntKind.i64 4)) 3, type := 4, pos := _, after := _, guard := none } : Oper)) (v := .bool true) rfl (by kernel_rfl) (by kernel_rfl) (by kernel_rfl) (fun _ _ _ h => h) (Or.inl ⟨by rfl, ?_⟩) hSS ?_
    · intro w9 hSw
      (try dsimp only at hSw)
      (try go_split_ands)
      first | (go_simp; done) | (go_simp; simp [hm5]; done)
    try simp only [Act.put, List.setIfInBounds_toArray, List.set_cons_zero, List.set_cons_succ]
    refine wpAnyH_take (i := 2) (oi := ({ dst := some 25, op := Op.move (Operand.tmp 24), type := 4, pos := _, after := _, guard := none } : Oper)) (v := ?_) rfl (by kernel_rfl) (by kernel_rfl) (by kernel_rfl) (fun _ _ _ h => h) (Or.inl ⟨by rfl, ?_⟩) hSS ?_
    rotate_left
    · intro w9 hSw
      (try dsimp only at hSw)
      (try go_split_ands)
      first | (go_simp; done) | (go_simp; with_reducible rfl)
    try simp only [Act.put, List.setIfInBounds_toArray, List.set_cons_zero, List.set_cons_succ]
    refine wpAnyH_take (i := 3) (oi := ({ dst := some 26, op := Op.move (Operand.tmp 0), type := 22, pos := _, after := _, guard := some (2, false) } : Oper)) (v := undef) rfl (by kernel_rfl) (by kernel_rfl) (by kernel_rfl) (fun _ _ _ h => h) (Or.inr ⟨by rfl, rfl⟩) hSS ?_
    try simp only [Act.put, List.setIfInBounds_toArray, List.set_cons_zero, List.set_cons_succ]
    refine wpAnyH_take (i := 4) (oi := ({ dst := some 27, op := Op.move (Operand.tmp 4), type := 3, pos := _, after := _, guard := some (2, false) } : Oper)) (v := undef) rfl (by kernel_rfl) (by kernel_rfl) (by kernel_rfl) (fun _ _ _ h => h) (Or.inr ⟨by rfl, rfl⟩) hSS ?_
    try simp only [Act.put, List.setIfInBounds_toArray, List.set_cons_zero, List.set_cons_succ]
    refine wpAnyH_take (i := 5) (oi := ({ dst := some 28, op := Op.slice 22 (Operand.tmp 26) none (some (Operand.tmp 27)) none, type := 22, pos := _, after := _, guard := some (2, false) } : Oper)) (v := undef) rfl (by kernel_rfl) (by kernel_rfl) (by kernel_rfl) (fun _ _ _ h => h) (Or.inr ⟨by rfl, rfl⟩) hSS ?_
    try simp only [Act.put, List.setIfInBounds_toArray, List.set_cons_zero, List.set_cons_succ]
    refine wpAnyH_take (i := 6) (oi := ({ dst := some 29, op := Op.call { callee := Callee.value (Operand.func 20), args := #[Operand.tmp 28], argTypes := #[22] }, type := 3, pos := _, after := _, guard := some (2, false) } : Oper)) (v := undef) rfl (by kernel_rfl) (by kernel_rfl) (by kernel_rfl) (fun _ _ _ h => h) (Or.inr ⟨by rfl, rfl⟩) hSS ?_
    try simp only [Act.put, List.setIfInBounds_toArray, List.set_cons_zero, List.set_cons_succ]
    refine wpAnyH_take (i := 7) (oi := ({ dst := some 30, op := Op.call { callee := Callee.value (Operand.func 19), args := #[Operand.tmp 29], argTypes := #[3] }, type := 22, pos := _, after := _, guard := some (2, false) } : Oper)) (v := undef) rfl (by kernel_rfl) (by kernel_rfl) (by kernel_rfl) (fun _ _ _ h => h) (Or.inr ⟨by rfl, rfl⟩) hSS ?_
    try simp only [Act.put, List.setIfInBounds_toArray, List.set_cons_zero, List.set_cons_succ]
    refine wpAnyH_take (i := 8) (oi := ({ dst := some 31, op := Op.convert 22 9 (Operand.tmp 30), type := 9, pos := _, after := _, guard := some (2, false) } : Oper)) (v := undef) rfl (by kernel_rfl) (by kernel_rfl) (by kernel_rfl) (fun _ _ _ h => h) (Or.inr ⟨by rfl, rfl⟩) hSS ?_
    try simp only [Act.put, List.setIfInBounds_toArray, List.set_cons_zero, List.set_cons_succ]
    refine wpAnyH_take (i := 9) (oi := ({ dst := some 32, op := Op.move (Operand.tmp 0), type := 22, pos := _, after := _, guard := some (2, false) } : Oper)) (v := undef) rfl (by kernel_rfl) (by kernel_rfl) (by kernel_rfl) (fun _ _ _ h => h) (Or.inr ⟨by rfl, rfl⟩) hSS ?_
    try simp only [Act.put, List.setIfInBounds_toArray, List.set_cons_zero, List.set_cons_succ]
    refine wpAnyH_take (i := 10) (oi := ({ dst := some 33, op := Op.move (Operand.tmp 4), type := 3, pos := _, after := _, guard := some (2, false) } : Oper)) (v := undef) rfl (by kernel_rfl) (by kernel_rfl) (by kernel_rfl) (fun _ _ _ h => h) (Or.inr ⟨by rfl, rfl⟩) hSS ?_
    try simp only [Act.put, List.setIfInBounds_toArray, List.set_cons_zero, List.set_cons_succ]
    refine wpAnyH_take (i := 11) (oi := ({ dst := some 34, op := Op.slice 22 (Operand.tmp 32) (some (Operand.tmp 33)) none none, type := 22, pos := _, after := _, guard := some (2, false) } : Oper)) (v := undef) rfl (by kernel_rfl) (by kernel_rfl) (by kernel_rfl) (fun _ _ _ h => h) (Or.inr ⟨by rfl, rfl⟩) hSS ?_
    try simp only [Act.put, List.setIfInBounds_toArray, List.set_cons_zero, List.set_cons_succ]
    refine wpAnyH_take (i := 12) (oi := ({ dst := some 35, op := Op.convert 22 9 (Operand.tmp 34), type := 9, pos := _, after := _, guard := some (2, false) } : Oper)) (v := undef) rfl (by kernel_rfl) (by kernel_rfl) (by kernel_rfl) (fun _ _ _ h => h) (Or.inr ⟨by rfl, rfl⟩) hSS ?_
    try simp only [Act.put, List.setIfInBounds_toArray, List.set_cons_zero, List.set_cons_succ]
    refine wpAnyH_take (i := 13) (oi := ({ dst := some 36, op := Op.binOp BinOp.neq 9 (Operand.tmp 31) (Operand.tmp 35) 9, type := 4, pos := _, after := _, guard := some (2, false) } : Oper)) (v := undef) rfl (by kernel_rfl) (by kernel_rfl) (by kernel_rfl) (fun _ _ _ h => h) (Or.inr ⟨by rfl, rfl⟩) hSS ?_
    try simp only [Act.put, List.setIfInBounds_toArray, List.set_cons_zero, List.set_cons_succ]
    refine wpAnyH_take (i := 14) (oi := ({ dst := some 37, op := Op.pick (Operand.tmp 25) (Operand.const (Value.bool true)) (Operand.tmp 36), type := 4, pos := _, after := _, guard := none } : Oper)) (v := ?_) rfl (by kernel_rfl) (by kernel_rfl) (by kernel_rfl) (fun _ _ _ h => h) (Or.inl ⟨by rfl, ?_⟩) hSS ?_
    rotate_left
    · intro w9 hSw
      (try dsimp only at hSw)
      (try go_split_ands)
      first | (go_simp; done) | (go_simp; with_reducible rfl)
    try simp only [Act.put, List.setIfInBounds_toArray, List.set_cons_zero, List.set_cons_succ]
    refine wpAnyH_done (by kernel_rfl) ?_ _
    clear hSS
    have y0 := (Zs.of HZ.out).c0
    have y1 := (Zs.of HZ.out).c1
    have y2 := (Zs.of HZ.out).c2
    have y3 := (Zs.of HZ.out).c3
    have y4 := (Zs.of HZ.out).c4
    have yf := (Zs.of HZ.out).fz
    go_wp2_with fail
    exact bodyPost_ret (results_row_tmp rfl _ _ r0 47 #[.string ⟨#[]⟩, .int .i64 0, .string ⟨#[]⟩, .int .i64 0, .slice none 0 0] (0, 0) _ (.int .i64 151) rfl rfl FH.out Try.underlying47 rfl (by kernel_rfl)) rfl FN.out
  · obtain ⟨kS, h20⟩ := H2.out (by omega)
    have H20 := hid h20
    have hm5 : ¬ (m : Int) < 4 := by omega
    have x1 : (m : Int) ≤ (m : Int) + 4 := by omega
    have x2 : (m : Int) ≤ (c : Int) := by omega
    have x3 : (m : Int) + 4 ≤ (c : Int) := by omega
    have x4 : ¬ c = m := by omega
    have x5 : m + 4 - m = 4 := by omega
    have x6 : ¬ c = 4 := by omega
    have x7 : (4 : Int) ≤ (m : Int) := by omega
    clear H1 H2 HZ h20
    refine wp_region_held_drew (S := fun w' => Sem.run Try.prog (convert 22 9 (.slice (some ⟨b, off + m, none⟩) 4 (c - m))) w' = .ok (.string D2) w') (by kernel_rfl) kS (fun hSS => ?_)
    refine wpAnyH_take (i := 0) (oi := ({ dst := some 23, op := Op.move (Operand.tmp 4), type := 3, pos := _, after := _, guard := none } : Oper)) (v := ?_) rfl (by kernel_rfl) (by kernel_rfl) (by kernel_rfl) (fun _ _ _ h => h) (Or.inl ⟨by rfl, ?_⟩) hSS ?_
    rotate_left
    · intro w9 hSw
      (try dsimp only at hSw)
      (try go_split_ands)
      first | (go_simp; done) | (go_simp; with_reducible rfl)
    try simp only [Act.put, List.setIfInBounds_toArray, List.set_cons_zero, List.set_cons_succ]
    refine wpAnyH_take (i := 1) (oi := ({ dst := some 24, op := Op.binOp BinOp.lss 3 (Operand.tmp 23) (Operand.const (Value.int IntKind.i64 4)) 3, type := 4, pos := _, after := _, guard := none } : Oper)) (v := .bool false) rfl (by kernel_rfl) (by kernel_rfl) (by kernel_rfl) (fun _ _ _ h => h) (Or.inl ⟨by rfl, ?_⟩) hSS ?_
    · intro w9 hSw
      (try dsimp only at hSw)
      (try go_split_ands)
      first | (go_simp; done) | (go_simp; simp [hm5]; done)
    try simp only [Act.put, List.setIfInBounds_toArray, List.set_cons_zero, List.set_cons_succ]
    refine wpAnyH_take (i := 2) (oi := ({ dst := some 25, op := Op.move (Operand.tmp 24), type := 4, pos := _, after := _, guard := none } : Oper)) (v := ?_) rfl (by kernel_rfl) (by kernel_rfl) (by kernel_rfl) (fun _ _ _ h => h) (Or.inl ⟨by rfl, ?_⟩) hSS ?_
    rotate_left
    · intro w9 hSw
      (try dsimp only at hSw)
      (try go_split_ands)
      first | (go_simp; done) | (go_simp; with_reducible rfl)
    try simp only [Act.put, List.setIfInBounds_toArray, List.set_cons_zero, List.set_cons_succ]
    refine wpAnyH_take (i := 3) (oi := ({ dst := some 26, op := Op.move (Operand.tmp 0), type := 22, pos := _, after := _, guard := some (2, false) } : Oper)) (v := ?_) rfl (by kernel_rfl) (by kernel_rfl) (by kernel_rfl) (fun _ _ _ h => h) (Or.inl ⟨by rfl, ?_⟩) hSS ?_
    rotate_left
    · intro w9 hSw
      (try dsimp only at hSw)
      (try go_split_ands)
      first | (go_simp; done) | (go_simp; with_reducible rfl)
    try simp only [Act.put, List.setIfInBounds_toArray, List.set_cons_zero, List.set_cons_succ]
    refine wpAnyH_take (i := 4) (oi := ({ dst := some 27, op := Op.move (Operand.tmp 4), type := 3, pos := _, after := _, guard := some (2, false) } : Oper)) (v := ?_) rfl (by kernel_rfl) (by kernel_rfl) (by kernel_rfl) (fun _ _ _ h => h) (Or.inl ⟨by rfl, ?_⟩) hSS ?_
    rotate_left
    · intro w9 hSw
      (try dsimp only at hSw)
      (try go_split_ands)
      first | (go_simp; done) | (go_simp; with_reducible rfl)
    try simp only [Act.put, List.setIfInBounds_toArray, List.set_cons_zero, List.set_cons_succ]
    refine wpAnyH_take (i := 5) (oi := ({ dst := some 28, op := Op.slice 22 (Operand.tmp 26) none (some (Operand.tmp 27)) none, type := 22, pos := _, after := _, guard := some (2, false) } : Oper)) (v := .slice (some ⟨b, off, none⟩) m c) rfl (by kernel_rfl) (by kernel_rfl) (by kernel_rfl) (fun _ _ _ h => h) (Or.inl ⟨by rfl, ?_⟩) hSS ?_
    · intro w9 hSw
      (try dsimp only at hSw)
      (try go_split_ands)
      first | (go_simp; done) | (go_simp; simp [x1, x2, x3]; done)
    try simp only [Act.put, List.setIfInBounds_toArray, List.set_cons_zero, List.set_cons_succ]
    refine wpAnyH_take (i := 9) (oi := ({ dst := some 32, op := Op.move (Operand.tmp 0), type := 22, pos := _, after := _, guard := some (2, false) } : Oper)) (v := ?_) rfl (by kernel_rfl) (by kernel_rfl) (by kernel_rfl) (fun _ _ _ h => h) (Or.inl ⟨by rfl, ?_⟩) hSS ?_
    rotate_left
    · intro w9 hSw
      (try dsimp only at hSw)
      (try go_split_ands)
      first | (go_simp; done) | (go_simp; with_reducible rfl)
    try simp only [Act.put, List.setIfInBounds_toArray, List.set_cons_zero, List.set_cons_succ]
    refine wpAnyH_take (i := 10) (oi := ({ dst := some 33, op := Op.move (Operand.tmp 4), type := 3, pos := _, after := _, guard := some (2, false) } : Oper)) (v := ?_) rfl (by kernel_rfl) (by kernel_rfl) (by kernel_rfl) (fun _ _ _ h => h) (Or.inl ⟨by rfl, ?_⟩) hSS ?_
    rotate_left
    · intro w9 hSw
      (try dsimp only at hSw)
      (try go_split_ands)
      first | (go_simp; done) | (go_simp; with_reducible rfl)
    try simp only [Act.put, List.setIfInBounds_toArray, List.set_cons_zero, List.set_cons_succ]
    refine wpAnyH_take (i := 11) (oi := ({ dst := some 34, op := Op.slice 22 (Operand.tmp 32) (some (Operand.tmp 33)) none none, type := 22, pos := _, after := _, guard := some (2, false) } : Oper)) (v := .slice (some ⟨b, off + m, none⟩) 4 (c - m)) rfl (by kernel_rfl) (by kernel_rfl) (by kernel_rfl) (fun _ _ _ h => h) (Or.inl ⟨by rfl, ?_⟩) hSS ?_
    · intro w9 hSw
      (try dsimp only at hSw)
      (try go_split_ands)
      first | (go_simp; done) | (go_simp; simp [x1, x2, x3, x5]; done)
    try simp only [Act.put, List.setIfInBounds_toArray, List.set_cons_zero, List.set_cons_succ]
    refine wpAnyH_take (i := 12) (oi := ({ dst := some 35, op := Op.convert 22 9 (Operand.tmp 34), type := 9, pos := _, after := _, guard := some (2, false) } : Oper)) (v := ?_) rfl (by kernel_rfl) (by kernel_rfl) (by kernel_rfl) (fun _ _ _ h => h) (Or.inl ⟨by rfl, ?_⟩) hSS ?_
    rotate_left
    · intro w9 hSw
      (try dsimp only at hSw)
      (try go_split_ands)
      first | (go_simp; done) | (go_simp; with_reducible rfl)
    try simp only [Act.put, List.setIfInBounds_toArray, List.set_cons_zero, List.set_cons_succ]
    refine wpAnyH_ready (rs := [6]) (by kernel_rfl) (by simp) (AllReadyH.cons (o := ({ dst := some 29, op := Op.call { callee := Callee.value (Operand.func 20), args := #[Operand.tmp 28], argTypes := #[22] }, type := 3, pos := _, after := _, guard := some (2, false) } : Oper)) rfl (fun K9 hK9 => ?_) AllReadyH.nil)
    go_simp
    go_at_call 20
    refine Calls.mono H20.out ?_
    rintro e w1 ⟨rfl, kS1, h19⟩
    have H19 := hid h19
    clear h19 H20
    refine hK9.out _ _ kS1 (fun hSS => ?_)
    clear hK9 K9
    try simp only [Act.put, List.setIfInBounds_toArray, List.set_cons_zero, List.set_cons_succ]
    refine wpAnyH_ready (rs := [7]) (by kernel_rfl) (by simp) (AllReadyH.cons (o := ({ dst := some 30, op := Op.call { callee := Callee.value (Operand.func 19), args := #[Operand.tmp 29], argTypes := #[3] }, type := 22, pos := _, after := _, guard := some (2, false) } : Oper)) rfl (fun K9 hK9 => ?_) AllReadyH.nil)
    go_simp
    go_at_call 19
    refine Calls.mono H19.out ?_
    rintro e w2 ⟨g, D1, rfl, kS2, hcv8, hne, hz2, hno2, hyes2⟩
    have HZ2 := hid hz2
    have HNO2 := hid hno2
    have HYES2 := hid hyes2
    clear hz2 hno2 hyes2 H19
    refine hK9.out _ _ kS2 (fun hSS => ?_)
    clear hK9 K9
    try simp only [Act.put, List.setIfInBounds_toArray, List.set_cons_zero, List.set_cons_succ]
    refine wpAnyH_ready (rs := [8]) (by kernel_rfl) (by simp) (AllReadyH.cons (o := ({ dst := some 31, op := Op.convert 22 9 (Operand.tmp 30), type := 9, pos := _, after := _, guard := some (2, false) } : Oper)) rfl (fun K9 hK9 => ?_) AllReadyH.nil)
    go_simp
    refine hK9.out _ _ kS2 (fun hSS => ?_)
    clear hK9 K9
    try simp only [Act.put, List.setIfInBounds_toArray, List.set_cons_zero, List.set_cons_succ]
    refine wpAnyH_take (i := 13) (oi := ({ dst := some 36, op := Op.binOp BinOp.neq 9 (Operand.tmp 31) (Operand.tmp 35) 9, type := 4, pos := _, after := _, guard := some (2, false) } : Oper)) (v := ?_) rfl (by kernel_rfl) (by kernel_rfl) (by kernel_rfl) (fun _ _ _ h => h) (Or.inl ⟨by rfl, ?_⟩) hSS ?_
    rotate_left
    · intro w9 hSw
      (try dsimp only at hSw)
      (try go_split_ands)
      first | (go_simp; done) | (go_simp; with_reducible rfl)
    try simp only [Act.put, List.setIfInBounds_toArray, List.set_cons_zero, List.set_cons_succ]
    refine wpAnyH_take (i := 14) (oi := ({ dst := some 37, op := Op.pick (Operand.tmp 25) (Operand.const (Value.bool true)) (Operand.tmp 36), type := 4, pos := _, after := _, guard := none } : Oper)) (v := ?_) rfl (by kernel_rfl) (by kernel_rfl) (by kernel_rfl) (fun _ _ _ h => h) (Or.inl ⟨by rfl, ?_⟩) hSS ?_
    rotate_left
    · intro w9 hSw
      (try dsimp only at hSw)
      (try go_split_ands)
      first | (go_simp; done) | (go_simp; with_reducible rfl)
    try simp only [Act.put, List.setIfInBounds_toArray, List.set_cons_zero, List.set_cons_succ]
    refine wpAnyH_done (by kernel_rfl) ?_ _
    clear hSS kS kS1 kS2 hcv8 hne
    cases ne
    case true =>
      have FN := hid (HNO2.out rfl)
      have FH := hid (set5_heap HZ2.out (.string ⟨#[]⟩) (.int .i64 0) (.string ⟨#[]⟩) (.int .i64 0) (.slice none 0 0))
      have y0 := (Zs.of HZ2.out).c0
      have y1 := (Zs.of HZ2.out).c1
      have y2 := (Zs.of HZ2.out).c2
      have y3 := (Zs.of HZ2.out).c3
      have y4 := (Zs.of HZ2.out).c4
      have yf := (Zs.of HZ2.out).fz
      clear HNO2 HYES2
      go_wp2_with fail
      exact bodyPost_ret (results_row_tmp rfl _ _ r0 47 #[.string ⟨#[]⟩, .int .i64 0, .string ⟨#[]⟩, .int .i64 0, .slice none 0 0] (0, 0) _ (.int .i64 151) rfl rfl FH.out Try.underlying47 rfl (by kernel_rfl)) rfl FN.out
    case false =>
    obtain ⟨w3, w4, kk, sb, hw3, hw4, hkk, hsb, ht⟩ := HYES2.out rfl
    have HW3 := hid hw3
    have HW4 := hid hw4
    have HKK := hid hkk
    have HSB := hid hsb
    have e3 : (w2.alloc (.cells #[.slice (some ⟨b, off + 4, none⟩) (m - 4) (c - 4), .bool false] 63)).heap.size = w2.heap.size + 1 := by simp
    unfold TailC at ht
    have HT := hid ht
    clear hw3 hw4 hkk hsb ht HNO2 HYES2 HZ2
    go_wp2_with fail
    rw [← HW3.out, ← HW4.out, ← HKK.out, ← HSB.out]
    clear HW3 HW4 HKK HSB e3
    refine Calls.mono HT.out ?_
    rintro e v1 ⟨n1, rfl, h⟩
    have H1 := hid h
    clear h HT
    go_wp2_with fail
    refine Calls.mono H1.out ?_
    rintro e v2 ⟨a1, l1, c1, rfl, hcv1, y0, f0, h⟩
    have H2 := hid h
    clear h H1
    go_wp2_with fail
    clear hcv1 y0 f0
    refine Calls.mono H2.out ?_
    rintro e v3 ⟨rfl, y1, f1, h⟩
    have H3 := hid h
    clear h H2
    go_wp2_with fail
    clear y1 f1
    refine Calls.mono H3.out ?_
    rintro e v4 ⟨n2, rfl, h⟩
    have H4 := hid h
    clear h H3
    go_wp2_with fail
    refine Calls.mono H4.out ?_
    rintro e v5 ⟨a2, l2, c2, rfl, hcv2, y2, f2, h⟩
    have H5 := hid h
    clear h H4
    go_wp2_with fail
    clear hcv2 y2 f2
    refine Calls.mono H5.out ?_
    rintro e v6 ⟨rfl, y3, f3, h⟩
    have H6 := hid h
    clear h H5
    go_wp2_with fail
    clear y3 f3
    refine Calls.mono H6.out ?_
    rintro e v7 ⟨rfl, LI, hL0, hLC⟩
    have HL0 := hid hL0
    unfold LoopC at hLC
    have HLC := hid hLC
    clear hL0 hLC H6
    go_wp2_with fail
    obtain ⟨i51, hi9, hz9, hs9, hb9⟩ := info_parts info51
    go_loopw [8] (fun iv wt => ∃ q : Nat, q ≤ cn ∧ iv = .int .i64 (q : Int) ∧ LI q wt) (fun iv _ => cn - (intOf iv).toNat)
    case atStart => exact ⟨0, Nat.zero_le _, rfl, HL0.out⟩
    case round =>
      clear HL0
      obtain ⟨q, hq, rfl, hL⟩ := hrel
      obtain ⟨bad, kb, hgo, hend⟩ := HLC.out q wr hL
      have HGO := hid hgo
      have HEND := hid hend
      clear hgo hend hL
      by_cases hqn : q < cn
      · have hqn' : (q : Int) < (cn : Int) := by omega
        cases bad
        case false =>
          have HG := hid (HGO.out hqn rfl)
          clear HGO HEND
          go_wp2_with fail
          refine Calls.mono HG.out ?_
          rintro e w5 ⟨k, rfl, w6, rb, hw6, hrb, h⟩
          have HW6 := hid hw6
          have HRB := hid hrb
          have H1 := hid h
          clear h HG hw6 hrb kb
          go_wp2_with fail
          rw [← HW6.out, ← HRB.out]
          clear HW6 HRB
          refine Calls.mono H1.out ?_
          rintro e w7 ⟨f, rfl, y1, f1, h⟩
          have H2 := hid h
          clear h H1
          go_wp2_with fail
          clear y1 f1
          refine Calls.mono H2.out ?_
          rintro e w8 ⟨t, rfl, hf0, ht0, y2, f2, w9, hw9, d0, d1, d2, hA, hB⟩
          have HW9 := hid hw9
          have HA := hid hA
          have HB := hid hB
          clear hw9 hA hB H2
          rw [HW9.out] at d0 d1 d2
          by_cases hk1 : k = 1
          · by_cases hft : f < t
            · have H21 := hid (HA.out hk1 hft)
              clear HA HB
              subst hk1
              go_wp2_with fail
              rw [← HW9.out]
              clear d0 d1 d2 y2 f2
              refine Calls.mono H21.out ?_
              rintro e u6 ⟨a6, n6, c6, rfl, ⟨v, y3⟩, f3, u7, hu7, hAPP⟩
              have HU7 := hid hu7
              have HAPP := hid hAPP
              clear hu7 hAPP H21
              obtain ⟨rv, vals, B, dx, dy, dz, g0, g1, g2, g3, g4, hBs, hrow, hnx⟩ := HAPP.out
              have HROW := hid hrow
              have HNX := hid hnx
              have HBS := hid hBs
              rw [HU7.out] at g0 g1 g2 g3 g4 HROW HBS HNX
              clear HAPP hrow hnx hBs
              obtain ⟨W9, hW9⟩ : ∃ W9, W9 = u7 := ⟨_, rfl⟩
              go_wp2_with (at_builtin; go_loud (refine wpList_append_lies _ rfl _ _ _ rfl B 51 i51 (.agg #[.int .i64 0, .int .i64 0, .int .i64 0, .slice none 0 0]) 4 48 Try.underlying45 hi9 hz9 hs9 hb9 rfl (by decide) _ q _ rfl (by exact HROW.out) ⟨u6.heap.size, 0, none⟩ 1 1 [.int .i64 1, .int .i64 f, .int .i64 t, .slice dx dy dz] rfl rfl (by exact news4 _ u6.heap.size (by simp) _ _ _ _ _) (by intro u hu; simp at hu; rcases hu with rfl | rfl | rfl | rfl <;> rfl) (by decide) (by unfold maxLen; omega) (by omega) (by have := HBS.out; simp at this ⊢; omega) (u6.heap.size + 1) (by simp) ?_; intro g4' cap4 w11 ho4 hg4 hlie4 _; have hlie5 : rv.ownBlock = some g4' ∨ g4' = u6.heap.size + 1 := hlie4; obtain ⟨y2', yf', hF⟩ := HNX.out w11 g4' cap4 ho4 hg4 (hlie5.imp id (fun z => by simpa using z)); have HF := hid hF; clear ho4 hg4 hlie4 hlie5 hF HNX HROW))
              go_roundw
              case rel => exact ⟨q + 1, by omega, by go_num, HF.out⟩
              case measure => simp [intOf]; omega
            · have hAPP := HB.out (fun h => hft h.2)
              have HAPP := hid hAPP
              clear HA HB hAPP
              subst hk1
              obtain ⟨rv, vals, B, dx, dy, dz, g0, g1, g2, g3, g4, hBs, hrow, hnx⟩ := HAPP.out
              have HROW := hid hrow
              have HNX := hid hnx
              have HBS := hid hBs
              rw [HW9.out] at g0 g1 g2 g3 g4 HROW HBS HNX
              clear HAPP hrow hnx hBs
              obtain ⟨W9, hW9⟩ : ∃ W9, W9 = w9 := ⟨_, rfl⟩
              go_wp2_with (at_builtin; go_loud (refine wpList_append_lies _ rfl _ _ _ rfl B 51 i51 (.agg #[.int .i64 0, .int .i64 0, .int .i64 0, .slice none 0 0]) 4 48 Try.underlying45 hi9 hz9 hs9 hb9 rfl (by decide) _ q _ rfl (by exact HROW.out) ⟨w8.heap.size, 0, none⟩ 1 1 [.int .i64 1, .int .i64 f, .int .i64 t, .slice dx dy dz] rfl rfl (by exact news4 _ w8.heap.size (by simp) _ _ _ _ _) (by intro u hu; simp at hu; rcases hu with rfl | rfl | rfl | rfl <;> rfl) (by decide) (by unfold maxLen; omega) (by omega) (by have := HBS.out; simp at this ⊢; omega) (w8.heap.size + 1) (by simp) ?_; intro g4' cap4 w11 ho4 hg4 hlie4 _; have hlie5 : rv.ownBlock = some g4' ∨ g4' = w8.heap.size + 1 := hlie4; obtain ⟨y2', yf', hF⟩ := HNX.out w11 g4' cap4 ho4 hg4 (hlie5.imp id (fun z => by simpa using z)); have HF := hid hF; clear ho4 hg4 hlie4 hlie5 hF HNX HROW))
              go_roundw
              case rel => exact ⟨q + 1, by omega, by go_num, HF.out⟩
              case measure => simp [intOf]; omega
          · have hAPP := HB.out (fun h => hk1 h.1)
            have HAPP := hid hAPP
            have hk2 : (k == 1) = false := by simpa using hk1
            clear HA HB hAPP hk1
            obtain ⟨rv, vals, B, dx, dy, dz, g0, g1, g2, g3, g4, hBs, hrow, hnx⟩ := HAPP.out
            have HROW := hid hrow
            have HNX := hid hnx
            have HBS := hid hBs
            rw [HW9.out] at g0 g1 g2 g3 g4 HROW HBS HNX
            clear HAPP hrow hnx hBs
            obtain ⟨W9, hW9⟩ : ∃ W9, W9 = w9 := ⟨_, rfl⟩
            go_wp2_with (at_builtin; go_loud (refine wpList_append_lies _ rfl _ _ _ rfl B 51 i51 (.agg #[.int .i64 0, .int .i64 0, .int .i64 0, .slice none 0 0]) 4 48 Try.underlying45 hi9 hz9 hs9 hb9 rfl (by decide) _ q _ rfl (by exact HROW.out) ⟨w8.heap.size, 0, none⟩ 1 1 [.int .i64 k, .int .i64 f, .int .i64 t, .slice dx dy dz] rfl rfl (by exact news4 _ w8.heap.size (by simp) _ _ _ _ _) (by intro u hu; simp at hu; rcases hu with rfl | rfl | rfl | rfl <;> rfl) (by decide) (by unfold maxLen; omega) (by omega) (by have := HBS.out; simp at this ⊢; omega) (w8.heap.size + 1) (by simp) ?_; intro g4' cap4 w11 ho4 hg4 hlie4 _; have hlie5 : rv.ownBlock = some g4' ∨ g4' = w8.heap.size + 1 := hlie4; obtain ⟨y2', yf', hF⟩ := HNX.out w11 g4' cap4 ho4 hg4 (hlie5.imp id (fun z => by simpa using z)); have HF := hid hF; clear ho4 hg4 hlie4 hlie5 hF HNX HROW))
            go_roundw
            case rel => exact ⟨q + 1, by omega, by go_num, HF.out⟩
            case measure => simp [intOf]; omega
        case true =>
          have HE := hid (HEND.out (.inr rfl))
          clear HGO HEND
          obtain ⟨a9, n9, c9, ra, rc, k0, hC, hz9', hbad, hgood⟩ := HE.out
          have FN := hid (hbad (.inl rfl))
          have FH := hid (set5_heap hz9' (.string ⟨#[]⟩) (.int .i64 0) (.string ⟨#[]⟩) (.int .i64 0) (.slice none 0 0))
          have y0 := (Zs.of hz9').c0
          have y1 := (Zs.of hz9').c1
          have y2 := (Zs.of hz9').c2
          have y3 := (Zs.of hz9').c3
          have y4 := (Zs.of hz9').c4
          have yf := (Zs.of hz9').fz
          clear hC hbad hgood HE hz9'
          go_wp2_with fail
          exact bodyPost_ret (results_row_tmp rfl _ _ r0 47 #[.string ⟨#[]⟩, .int .i64 0, .string ⟨#[]⟩, .int .i64 0, .slice none 0 0] (0, 0) _ (.int .i64 150) rfl rfl FH.out Try.underlying47 rfl (by kernel_rfl)) rfl FN.out
      · have hqn' : ¬ (q : Int) < (cn : Int) := by omega
        obtain ⟨a9, n9, c9, ra, rc, k0, ⟨d0, d1, d2, d3, d4⟩, hz9', hbad, hgood⟩ := HEND.out (.inl (by omega))
        have HBAD := hid hbad
        have HGOOD := hid hgood
        clear HGO HEND hbad hgood
        cases bad
        case true =>
          have FN := hid (HBAD.out (.inl rfl))
          have FH := hid (set5_heap hz9' (.string ⟨#[]⟩) (.int .i64 0) (.string ⟨#[]⟩) (.int .i64 0) (.slice none 0 0))
          have y0 := (Zs.of hz9').c0
          have y1 := (Zs.of hz9').c1
          have y2 := (Zs.of hz9').c2
          have y3 := (Zs.of hz9').c3
          have y4 := (Zs.of hz9').c4
          have yf := (Zs.of hz9').fz
          clear hz9' HBAD HGOOD
          go_wp2_with fail
          exact bodyPost_ret (results_row_tmp rfl _ _ r0 47 #[.string ⟨#[]⟩, .int .i64 0, .string ⟨#[]⟩, .int .i64 0, .slice none 0 0] (0, 0) _ (.int .i64 150) rfl rfl FH.out Try.underlying47 rfl (by kernel_rfl)) rfl FN.out
        case false =>
        by_cases h90 : 0 < n9
        · have FN := hid (HBAD.out (.inr h90))
          have FH := hid (set5_heap hz9' (.string ⟨#[]⟩) (.int .i64 0) (.string ⟨#[]⟩) (.int .i64 0) (.slice none 0 0))
          have h91 : (0 : Int) < (n9 : Int) := by omega
          have y0 := (Zs.of hz9').c0
          have y1 := (Zs.of hz9').c1
          have y2 := (Zs.of hz9').c2
          have y3 := (Zs.of hz9').c3
          have y4 := (Zs.of hz9').c4
          have yf := (Zs.of hz9').fz
          clear hz9' HBAD HGOOD
          go_wp2_with fail
          exact bodyPost_ret (results_row_tmp rfl _ _ r0 47 #[.string ⟨#[]⟩, .int .i64 0, .string ⟨#[]⟩, .int .i64 0, .slice none 0 0] (0, 0) _ (.int .i64 150) rfl rfl FH.out Try.underlying47 rfl (by kernel_rfl)) rfl FN.out
        · have h92 : n9 = 0 := by omega
          subst h92
          have H23 := hid (HGOOD.out rfl rfl)
          clear HBAD HGOOD hz9'
          go_wp2_with fail
          refine Calls.mono H23.out ?_
          rintro e u1 ⟨my, rfl, hzu, hno, hyes⟩
          have HNO := hid hno
          have HYES := hid hyes
          have HZU := hid hzu
          clear hno hyes hzu H23 d0 d1 d2 d3 d4 k0 kb
          cases my
          case false =>
            have FN := hid (HNO.out rfl)
            have FH := hid (set5_heap HZU.out (.string ⟨#[]⟩) (.int .i64 0) (.string ⟨#[]⟩) (.int .i64 0) (.slice none 0 0))
            have y0 := (Zs.of HZU.out).c0
            have y1 := (Zs.of HZU.out).c1
            have y2 := (Zs.of HZU.out).c2
            have y3 := (Zs.of HZU.out).c3
            have y4 := (Zs.of HZU.out).c4
            have yf := (Zs.of HZU.out).fz
            clear HNO HYES
            go_wp2_with fail
            exact bodyPost_ret (results_row_tmp rfl _ _ r0 47 #[.string ⟨#[]⟩, .int .i64 0, .string ⟨#[]⟩, .int .i64 0, .slice none 0 0] (0, 0) _ (.int .i64 150) rfl rfl FH.out Try.underlying47 rfl (by kernel_rfl)) rfl FN.out
          case true =>
            obtain ⟨⟨d0, d1, d2, d3, d4⟩, hP⟩ := HYES.out rfl
            have FN := hid hP
            have FH := hid (set5_heap HZU.out (.string S1) (.int .i64 sz) (.string S2) (.int .i64 sm) (.slice ra q rc))
            have y0 := (Zs.of HZU.out).c0
            have y1 := (Zs.of HZU.out).c1
            have y2 := (Zs.of HZU.out).c2
            have y3 := (Zs.of HZU.out).c3
            have y4 := (Zs.of HZU.out).c4
            have yf := (Zs.of HZU.out).fz
            clear HNO HYES hP
            go_wp2_with fail
            exact bodyPost_ret (results_row_tmp rfl _ _ r0 47 #[.string S1, .int .i64 sz, .string S2, .int .i64 sm, .slice ra q rc] (0, 0) _ (.int .i64 0) rfl rfl FH.out Try.underlying47 rfl (by kernel_rfl)) rfl FN.out

end Go.Proofs.Ytahaehjmnafhbaa
