import Derived.Test.YthkkdmblkalknaaGreatDoorD07
/-
  settle; the law of OpEncodes.
-/
namespace Go.Proofs.YthkkdmblkalknaaGreatDoor
open Go.RowKit Go.Proofs.YthkkdmblkalknaaGreatDoor.bk

set_option maxRecDepth 100000 in
set_option maxHeartbeats 4000000 in
theorem settle_any {B : Nat} {X : Nat → Prop} {W : World} {b cnt tot nK : Nat} (hB : B ≤ W.heap.size) (hnK : nK ≤ 67108800) (hc : cnt ≤ 8388600) (ht : tot ≤ 1073741754) (h : Bok B X W b cnt tot nK) (hX : ∀ x, X x → B ≤ x) :
    Calls Tryz.prog 25 #[.pointer (some ⟨b, 0, none⟩)] W fun e w' => e = .returned (.bool true) ∧ Below B W w' := by
  have HC : Hid (Calls Tryz.prog 53 #[.pointer (some ⟨b, 0, none⟩), .slice none 0 0, .int .i64 1] W fun e w1 => e = .returned (.tuple #[]) ∧ Calls Tryz.prog 53 #[.pointer (some ⟨b, 0, none⟩), .slice none 0 0, .int .i64 2] w1 fun e w2 => e = .returned (.tuple #[]) ∧
      Calls Tryz.prog 53 #[.pointer (some ⟨b, 0, none⟩), .slice none 0 0, .int .i64 3] w2 fun e w3 => e = .returned (.tuple #[]) ∧ Calls Tryz.prog 54 #[.pointer (some ⟨b, 0, none⟩)] w3 fun e w4 => e = .returned (.bool true) ∧ Below B W w4) := by
    refine (OwnNil B X W b cnt tot nK 1 hB (by omega) (by omega) ht (by omega) (by omega) h).mono ?_
    rintro e w1 ⟨rfl, n1, l1, h1, b1⟩
    have B1 : Below B W w1 := b1.below hB (fun k hk hx => by have := hX k hx; omega)
    refine ⟨rfl, (OwnNil B _ w1 b (cnt + 1) tot n1 2 (Nat.le_trans hB b1.size) (by omega) (by omega) ht (by omega) (by omega) h1).mono ?_⟩
    rintro e w2 ⟨rfl, n2, l2, h2, b2⟩
    have X1 : ∀ x, (X x ∨ W.heap.size ≤ x) → B ≤ x := fun x hx => hx.elim (hX x) (fun e => by omega)
    have B2 : Below B W w2 := B1.trans (b2.below (Nat.le_trans hB B1.size) (fun k hk hx => by have := X1 k hx; omega))
    refine ⟨rfl, (OwnNil B _ w2 b (cnt + 1 + 1) tot n2 3 (Nat.le_trans hB B2.size) (by omega) (by omega) ht (by omega) (by omega) h2).mono ?_⟩
    rintro e w3 ⟨rfl, n3, l3, h3, b3⟩
    have hs1 := B1.size
    have hs2 := B2.size
    have X2 : ∀ x, ((X x ∨ W.heap.size ≤ x) ∨ w1.heap.size ≤ x) → B ≤ x := fun x hx => hx.elim (X1 x) (fun e => by omega)
    have B3 : Below B W w3 := B2.trans (b3.below (Nat.le_trans hB B2.size) (fun k hk hx => by have := X2 k hx; omega))
    refine ⟨rfl, (Holds_any B _ w3 b _ tot n3 (by omega) h3).mono ?_⟩
    rintro e w4 ⟨rfl, _, b4⟩
    refine ⟨rfl, B3.trans (b4.below (Nat.le_trans hB B3.size) (fun k hk hx => ?_))⟩
    rcases hx with hx | hx
    · have := X2 k hx; omega
    · omega
  clear h hX hB hnK hc ht
  go_enter Tryz.func25, Tryz.ntmps25
  go_wp2_with fail
  refine HC.out.mono ?_
  rintro e w1 ⟨rfl, h1⟩
  have H1 := hid h1
  clear h1 HC
  go_wp2_with fail
  refine H1.out.mono ?_
  rintro e w2 ⟨rfl, h2⟩
  have H2 := hid h2
  clear h2 H1
  go_wp2_with fail
  refine H2.out.mono ?_
  rintro e w3 ⟨rfl, h3⟩
  have H3 := hid h3
  clear h3 H2
  go_wp2_with fail
  refine H3.out.mono ?_
  rintro e w4 ⟨rfl, h4⟩
  have H4 := hid h4
  clear h4 H3
  go_wp2
  go_ret
  exact ⟨rfl, H4.out⟩

theorem EnS.start {w w1 : World} (hb : Below w.heap.size w w1) : EnS w (w1.heap.size + 1) w1.heap.size ((w1.alloc (.cells #[.int .i64 0, .int .i64 0, .bool false, .slice none 0 0, .slice none 0 0, .slice none 0 0, .slice none 0 0, .slice none 0 0] 56)).alloc (.cells #[.slice none 0 0, .slice none 0 0] 48)) 0 0 0 := by
  have hz := hb.size
  have n1 := heap_new w1 (.cells #[.int .i64 0, .int .i64 0, .bool false, .slice none 0 0, .slice none 0 0, .slice none 0 0, .slice none 0 0, .slice none 0 0] 56)
  have b1 := below1 w1 (.cells #[.int .i64 0, .int .i64 0, .bool false, .slice none 0 0, .slice none 0 0, .slice none 0 0, .slice none 0 0, .slice none 0 0] 56)
  have z1 : (w1.alloc (.cells #[.int .i64 0, .int .i64 0, .bool false, .slice none 0 0, .slice none 0 0, .slice none 0 0, .slice none 0 0, .slice none 0 0] 56)).heap.size = w1.heap.size + 1 := by simp
  generalize w1.alloc (.cells #[.int .i64 0, .int .i64 0, .bool false, .slice none 0 0, .slice none 0 0, .slice none 0 0, .slice none 0 0, .slice none 0 0] 56) = W1 at *
  have n2 := heap_new W1 (.cells #[.slice none 0 0, .slice none 0 0] 48)
  have b2 := below1 W1 (.cells #[.slice none 0 0, .slice none 0 0] 48)
  have z2 : (W1.alloc (.cells #[.slice none 0 0, .slice none 0 0] 48)).heap.size = w1.heap.size + 2 := by simp [z1]
  rw [z1] at n2
  have n1' := (b2.block w1.heap.size (by omega)).trans n1
  generalize W1.alloc (.cells #[.slice none 0 0, .slice none 0 0] 48) = W2 at *
  refine ⟨fun x => if x = w1.heap.size + 1 then 1 else 0, .slice none 0 0, .slice none 0 0, [], fun x => x = w1.heap.size, ⟨n2, if_pos rfl, fun x hx => ?_, .inl rfl, ⟨rfl, .inl ⟨rfl, rfl⟩⟩, fun g hg => (by cases hg), fun i hi => by simp at hi⟩, fun y hy => ?_, (hb.trans (b1.mono hz)).trans (b2.mono (by omega)), Bok.new n1' hz, fun x hx => ?_⟩
  · show (if x = w1.heap.size + 1 then 1 else 0) = 0
    rw [if_neg (by omega)]
  · show (if y = w1.heap.size + 1 then 1 else 0) = 0
    rw [if_neg (by omega)]
  · subst hx
    refine ⟨?_, by omega, by omega⟩
    show (if w1.heap.size = w1.heap.size + 1 then 1 else 0) = 0
    rw [if_neg (by omega)]
/-- within the law's loop -/
def EnL (w : World) (T b : Nat) (oss : List (List PO)) (wr : World) (r : Nat) : Prop := ∃ tot nK, tot ≤ 6 * ((oss.take r).map blk).sum ∧ nK ≤ 45 * r ∧ EnS w T b wr (3 * r) tot nK
theorem sum_take (oss : List (List PO)) (r : Nat) (hr : r < oss.length) : ((oss.take (r + 1)).map blk).sum = ((oss.take r).map blk).sum + blk oss[r] := by
  rw [List.take_succ_eq_append_getElem hr, List.map_append, List.sum_append]
  rfl
theorem sum_le (oss : List (List PO)) (r : Nat) : ((oss.take r).map blk).sum ≤ (oss.map blk).sum := by
  induction oss generalizing r with
  | nil => simp
  | cons o l ih =>
    cases r with
    | zero => simp
    | succ r =>
      have := ih r
      simp only [List.take_succ_cons, List.map_cons, List.sum_cons]
      omega

set_option maxRecDepth 100000 in
set_option maxHeartbeats 4000000 in
theorem opEncodes_law (x : Option Addr) (c : Nat) (oss : List (List PO)) (w : World) (hG : GT w) (hl : oss.length ≤ 1048576) (hs : (oss.map blk).sum ≤ 1048576) (hb : ∀ os ∈ oss, os.length ≤ 16777216 ∧ blk os ≤ 16777216) (hR : RdLs w.heap.size w x oss) :
    Calls Tryz.prog 6 #[.slice x oss.length c] w fun e w' => e = .returned (.bool true) ∧ Below w.heap.size w w' := by
  have H9 := hid (awake_any w hG)
  have HSTEP : Hid (∀ (T b : Nat) (wr : World) (r : Nat) (hr : r < oss.length), EnL w T b oss wr r → ∃ g off a c n, x = some ⟨g, off, none⟩ ∧ wr.cell? ⟨g, off + r, none⟩ = some (.slice a n c) ∧
      Calls Tryz.prog 24 #[.slice a n c, .pointer (some ⟨T, 0, none⟩), .pointer (some ⟨b, 0, none⟩)] wr fun e w1 => e = .returned (.bool true) ∧ w1.cell? ⟨g, off + r, none⟩ = some (.slice a n c) ∧
      Calls Tryz.prog 22 #[.slice a n c] w1 fun e w2 => ∃ ua un uc, e = .returned (.slice ua un uc) ∧
      Calls Tryz.prog 24 #[.slice ua un uc, .pointer (some ⟨T, 0, none⟩), .pointer (some ⟨b, 0, none⟩)] w2 fun e w3 => e = .returned (.bool true) ∧ w3.cell? ⟨g, off + r, none⟩ = some (.slice a n c) ∧
      Calls Tryz.prog 24 #[.slice a n c, .pointer (some ⟨T, 0, none⟩), .pointer (some ⟨b, 0, none⟩)] w3 fun e w4 => e = .returned (.bool true) ∧ EnL w T b oss w4 (r + 1)) := by
    rintro T b wr r hr ⟨tot, nK, ht, hk, hS⟩
    obtain ⟨g, off, rfl, hbl, hc⟩ := hR.resolve_left (fun e => by rw [e] at hr; simp at hr)
    obtain ⟨a, cp, hcell, hRo, hn⟩ := hc r hr
    obtain ⟨hl1, hb1⟩ := hb _ (List.getElem_mem hr)
    have hsum := sum_take oss r hr
    have hle := sum_le oss (r + 1)
    have cellAt : ∀ {W : World} {c t n : Nat}, EnS w T b W c t n → W.cell? ⟨g, off + r, none⟩ = some (.slice a oss[r].length cp) := fun h => (h.bel.cell (by exact hbl)).trans hcell
    refine ⟨g, off, a, cp, _, rfl, cellAt hS, (encodes_walk (enC_any (hS.args hRo) hG hl1 hb1 hn (by omega) (by omega) (by omega))).mono ?_⟩
    rintro e w1 ⟨rfl, m1, n1, q1, p1, s1⟩
    refine ⟨rfl, cellAt s1, (s1.turned hl1 hRo).mono ?_⟩
    rintro e w2 ⟨ua, uc, os', rfl, hT, hun, hR2⟩
    have hbt := hT.blk
    refine ⟨ua, _, uc, rfl, (encodes_walk (enC_any hR2 hG (by rw [hT.1]; exact hl1) (by rw [hbt]; exact hb1) hun (by omega) (by omega) (by omega))).mono ?_⟩
    rintro e w3 ⟨rfl, m2, n2, q2, p2, s3⟩
    refine ⟨rfl, cellAt s3, (encodes_walk (enC_any (s3.args hRo) hG hl1 hb1 hn (by omega) (by omega) (by omega))).mono ?_⟩
    rintro e w4 ⟨rfl, m3, n3, q3, p3, s4⟩
    refine ⟨rfl, _, n3, ?_, by omega, s4⟩
    omega
  have HEND : Hid (∀ (T b : Nat) (wr : World), EnL w T b oss wr oss.length → Calls Tryz.prog 25 #[.pointer (some ⟨b, 0, none⟩)] wr fun e w' => e = .returned (.bool true) ∧ Below w.heap.size w w') := by
    rintro T b wr ⟨tot, nK, ht, hk, κ, lv, dv, ls, X, hI⟩
    rw [List.take_length] at ht
    refine (settle_any (B := w.heap.size) hI.bel.size (by omega) (by omega) (by omega) hI.bok (fun y hy => (hI.dj y hy).2.1)).mono ?_
    rintro e w' ⟨rfl, hb'⟩
    exact ⟨rfl, hI.bel.trans hb'⟩
  clear hG hb hR hs
  go_enter Tryz.func6, Tryz.ntmps6
  go_wp2_with fail
  refine H9.out.mono ?_
  rintro e w1 ⟨rfl, b1⟩
  have HS0 := hid (EnS.start b1)
  clear H9 b1
  go_wp2_with fail
  have hS0 := HS0.out
  clear HS0
  obtain ⟨T, hT⟩ : ∃ T, T = w1.heap.size + 1 := ⟨_, rfl⟩
  rw [← hT] at hS0 ⊢
  clear hT
  obtain ⟨bb, hbb⟩ : ∃ bb, bb = w1.heap.size := ⟨_, rfl⟩
  rw [← hbb] at hS0 ⊢
  clear hbb
  have HL0 : Hid (EnL w T bb oss _ 0) := ⟨0, 0, Nat.zero_le _, Nat.le_refl _, hS0⟩
  clear hS0
  generalize ((w1.alloc (.cells #[.int .i64 0, .int .i64 0, .bool false, .slice none 0 0, .slice none 0 0, .slice none 0 0, .slice none 0 0, .slice none 0 0] 56)).alloc (.cells #[.slice none 0 0, .slice none 0 0] 48)) = W0 at *
  go_loopw [5] (fun i wr => ∃ r : Nat, r ≤ oss.length ∧ i = .int .i64 (r : Int) ∧ EnL w T bb oss wr r) (fun i _ => oss.length - (intOf i).toNat)
  case atStart => exact ⟨0, Nat.zero_le _, rfl, HL0.out⟩
  case round =>
    clear HL0
    obtain ⟨r, hr, rfl, hS⟩ := hrel
    by_cases hlt : r < oss.length
    · obtain ⟨g, off, a, cp, n, rfl, hc0, hC⟩ := HSTEP.out T bb wr r hlt hS
      have HC := hid hC
      have hr1 : (r : Int) < (oss.length : Int) := by omega
      clear hC hS HSTEP HEND
      go_wp2_with fail
      refine HC.out.mono ?_
      rintro e w2 ⟨rfl, hc1, h1⟩
      have H1 := hid h1
      clear h1 HC hc0
      go_wp2_with fail
      refine H1.out.mono ?_
      rintro e w3 ⟨ua, un, uc, rfl, h2⟩
      have H2 := hid h2
      clear h2 H1 hc1
      go_wp2_with fail
      refine H2.out.mono ?_
      rintro e w4 ⟨rfl, hc3, h3⟩
      have H3 := hid h3
      clear h3 H2
      go_wp2_with fail
      refine H3.out.mono ?_
      rintro e w5 ⟨rfl, h4⟩
      have H4 := hid h4
      clear h4 H3 hc3
      go_wp2
      go_roundw
      case rel => exact ⟨r + 1, by omega, by go_num, H4.out⟩
      case measure => simp [intOf]; omega
    · have e : r = oss.length := by omega
      subst e
      have HE := hid (HEND.out T bb wr hS)
      clear hS HSTEP HEND
      go_wp2_with fail
      refine HE.out.mono ?_
      rintro e w2 ⟨rfl, h2⟩
      have H2 := hid h2
      clear h2 HE
      go_wp2
      go_ret
      exact ⟨rfl, H2.out⟩

end Go.Proofs.YthkkdmblkalknaaGreatDoor
