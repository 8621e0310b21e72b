import Derived.Test.YthkkdmblkalknaaGreatDoorB06
import Derived.Test.YthkkdmblkalknaaGreatDoorC00
/-
  prints: one Print as the document says; the law of OpPrints.
-/
namespace Go.Proofs.YthkkdmblkalknaaGreatDoor
open Go.RowKit

theorem blk_take : ∀ (os : List PO) (r : Nat), blk (os.take r) ≤ blk os
  | [], _ => by simp
  | _ :: _, 0 => by simp [blk]
  | o :: os, r + 1 => by
    have := blk_take os r
    simp only [List.take_succ_cons, blk]
    omega
theorem Twins.blk : ∀ {os os' : List PO}, Twins os os' → blk os' = blk os
  | [], [], _ => rfl
  | [], _ :: _, h => by have := h.1; simp at this
  | _ :: _, [], h => by have := h.1; simp at this
  | o :: os, p :: os', h => by
    have h0 := h.2 0 (by simp) (by simp)
    have ht : Twins os os' := ⟨by simpa using h.1, fun i h1 h2 => h.2 (i + 1) (Nat.succ_lt_succ h1) (Nat.succ_lt_succ h2)⟩
    have ih := Twins.blk ht
    have e1 := h0.s
    have e2 := h0.d
    simp only [List.getElem_cons_zero] at e1 e2
    simp only [Go.Proofs.YthkkdmblkalknaaGreatDoor.blk, ih]
    omega
theorem prt_bd {os : List PO} (hb : blk os ≤ 16777216) (r : Nat) (h : ∀ o ∈ os.take r, o.ck = 0) : (prtL (os.take r)).length ≤ 1073741824 := by
  have := prtL_blk (os.take r) h
  have := blk_take os r
  omega

set_option maxRecDepth 100000 in
set_option maxHeartbeats 4000000 in
theorem prints_any (T : Nat) (κ : Nat → Nat) (lv dv : Value) (ls : List (Nat × Value)) (x : Option Addr) (c : Nat) (os : List PO) (w : World) (hl : os.length ≤ 16777216) (hbk : blk os ≤ 16777216) (hG : GT w) (hk : ∀ y, y < 9 → κ y = 0) (hS : TS w T κ lv dv ls) (hR : RdON (fun x => κ x ≠ 0) w x os) (hx : x = none → c = 0) :
    Calls Tryz.prog 23 #[.slice x os.length c, .pointer (some ⟨T, 0, none⟩)] w (CkP w κ T) := by
  have HC : Hid (Calls Tryz.prog 47 #[.pointer (some ⟨T, 0, none⟩), .slice x os.length c] w fun e w1 => ∃ G M, e = .returned (.slice (some ⟨G, 0, none⟩) os.length M) ∧
      Calls Tryz.prog 15 #[.slice (some ⟨G, 0, none⟩) os.length M] w1 fun e w2 => e = .returned (.tuple #[.string (if ckA os = 0 then ⟨(prtL os).toArray⟩ else ⟨#[]⟩), .int .i64 (ckA os)]) ∧
      Calls Tryz.prog 51 #[.slice x os.length c] w2 fun e w3 => e = .returned (.tuple #[.string (if ckA os = 0 then ⟨(prtL os).toArray⟩ else ⟨#[]⟩), .int .i64 (ckA os)]) ∧
      Calls Tryz.prog 50 #[.pointer (some ⟨T, 0, none⟩), .slice x os.length c] w3 (CkP w κ T)) := by
    refine (TLend_any T κ lv dv ls x c os w hl hS hR hx).mono ?_
    rintro e w1 ⟨G, M, κ', dv', ls', vs, rfl, hT, hE, hB⟩
    have hR1 := hR.ext hB hE
    have hG1 : GT w1 := hG.butk hB (fun k hk' => by simp [hk k hk'])
    have hRL : RdO w1.heap.size w1 (some ⟨G, 0, none⟩) os := hT.rd hR1.1 hR1.isb
    refine ⟨G, M, rfl, (Print_all (some ⟨G, 0, none⟩) M os w1 hl (fun h => by have := prt_bd hbk os.length (by rw [List.take_length]; exact ckA_zero h); rwa [List.take_length] at this) hG1 hRL).mono ?_⟩
    rintro e w2 ⟨rfl, b2⟩
    refine ⟨rfl, (rPrint_any x c os w2 hl (fun r _ h => prt_bd hbk r h) (hG1.next b2) ((hR1.rd.below b2).mono b2.size)).mono ?_⟩
    rintro e w3 ⟨rfl, b3⟩
    exact ⟨rfl, lendBack hl hR hT hE hB w3 (b2.trans (b3.mono b2.size))⟩
  have HN := hid num_any
  clear hl hbk hG hk hS hR hx
  generalize (if ckA os = 0 then (⟨(prtL os).toArray⟩ : ByteArray) else ⟨#[]⟩) = S at *
  generalize ckA os = E at *
  go_enter Tryz.func23, Tryz.ntmps23
  go_wp2_with fail
  refine HC.out.mono ?_
  rintro e w1 ⟨G, M, rfl, h1⟩
  have H1 := hid h1
  clear h1 HC
  go_wp2_with fail
  refine H1.out.mono ?_
  rintro e w2 ⟨rfl, h2⟩
  have H2 := hid h2
  clear h2 H1
  go_wp2_with fail
  refine H2.out.mono ?_
  rintro e w3 ⟨rfl, h3⟩
  have H3 := hid h3
  clear h3 H2
  go_wp2_with fail
  refine (HN.out _ _).mono ?_
  rintro e w4 ⟨rfl, hw4⟩
  rw [hw4]
  clear hw4
  go_wp2_with fail
  refine H3.out.mono ?_
  rintro e w5 ⟨rfl, hF⟩
  have HX := hid hF
  clear H3 hF
  go_wp2
  go_ret
  exact ⟨rfl, HX.out⟩
theorem TyR.prints {w wr : World} {T : Nat} {x : Option Addr} {c : Nat} {os : List PO} (h : TyR w T wr x os) (hG : GT w) (hl : os.length ≤ 16777216) (hbk : blk os ≤ 16777216) (hx : x = none → c = 0) : Calls Tryz.prog 23 #[.slice x os.length c, .pointer (some ⟨T, 0, none⟩)] wr fun e w' => e = .returned (.bool true) ∧ TyS w T w' := by
  obtain ⟨κ, lv, dv, ls, h1, h2, h3, h4⟩ := h
  refine (prints_any T κ lv dv ls x c os wr hl hbk (hG.next h3) (fun y hy => h2 y (Nat.lt_of_lt_of_le hy hG.lt)) h1 h4 hx).mono ?_
  intro e w' hC
  exact TyR.done h2 h3 hC

/-- lists of operations that are read -/
def RdLs (B : Nat) (w : World) (x : Option Addr) (oss : List (List PO)) : Prop :=
  oss = [] ∨ ∃ b off, x = some ⟨b, off, none⟩ ∧ b < B ∧ ∀ t (h : t < oss.length), ∃ a c, w.cell? ⟨b, off + t, none⟩ = some (.slice a oss[t].length c) ∧ RdO B w a oss[t] ∧ (a = none → c = 0)
theorem RdLs.below {B : Nat} {w w' : World} {x : Option Addr} {oss : List (List PO)} (h : RdLs B w x oss) (hb : Below B w w') : RdLs B w' x oss := by
  rcases h with e | ⟨b, off, rfl, hl, hc⟩
  · exact .inl e
  · exact .inr ⟨b, off, rfl, hl, fun t ht => by obtain ⟨a, c, h1, h2, h3⟩ := hc t ht; exact ⟨a, c, (hb.cell (by exact hl)).trans h1, h2.below hb, h3⟩⟩

set_option maxRecDepth 100000 in
set_option maxHeartbeats 4000000 in
theorem opPrints_law (x : Option Addr) (c : Nat) (oss : List (List PO)) (w : World) (hG : GT w) (hl : oss.length ≤ 16777216) (hb : ∀ os ∈ oss, os.length ≤ 16777216 ∧ blk os ≤ 16777216) (hR : RdLs w.heap.size w x oss) :
    Calls Tryz.prog 5 #[.slice x oss.length c] w fun e w' => e = .returned (.bool true) ∧ Below w.heap.size w w' := by
  have H9 := hid (awake_any w hG)
  have HSTEP : Hid (∀ (T : Nat) (wr : World) (r : Nat) (hr : r < oss.length), TyS w T wr → ∃ b off a c n, x = some ⟨b, off, none⟩ ∧ wr.cell? ⟨b, off + r, none⟩ = some (.slice a n c) ∧
      Calls Tryz.prog 23 #[.slice a n c, .pointer (some ⟨T, 0, none⟩)] wr fun e w1 => e = .returned (.bool true) ∧ w1.cell? ⟨b, off + r, none⟩ = some (.slice a n c) ∧
      Calls Tryz.prog 22 #[.slice a n c] w1 fun e w2 => ∃ ua un uc, e = .returned (.slice ua un uc) ∧
      Calls Tryz.prog 23 #[.slice ua un uc, .pointer (some ⟨T, 0, none⟩)] w2 fun e w3 => e = .returned (.bool true) ∧ w3.cell? ⟨b, off + r, none⟩ = some (.slice a n c) ∧
      Calls Tryz.prog 23 #[.slice a n c, .pointer (some ⟨T, 0, none⟩)] w3 fun e w4 => e = .returned (.bool true) ∧ TyS w T w4) := by
    intro T wr r hr hS
    obtain ⟨b, off, rfl, hbl, hc⟩ := hR.resolve_left (fun e => by rw [e] at hr; simp at hr)
    obtain ⟨a, cp, hcell, hRo, hn⟩ := hc r hr
    obtain ⟨hl1, hb1⟩ := hb _ (List.getElem_mem hr)
    have cellAt : ∀ {W : World}, TyS w T W → W.cell? ⟨b, off + r, none⟩ = some (.slice a oss[r].length cp) := fun h => (h.bel.cell (by exact hbl)).trans hcell
    refine ⟨b, off, a, cp, _, rfl, cellAt hS, ((hS.args hRo).prints hG hl1 hb1 hn).mono ?_⟩
    rintro e w1 ⟨rfl, s1⟩
    refine ⟨rfl, cellAt s1, (s1.turned hl1 hRo).mono ?_⟩
    rintro e w2 ⟨ua, uc, os', rfl, hT, hun, hR2, _⟩
    refine ⟨ua, _, uc, rfl, (hR2.prints hG (by rw [hT.1]; exact hl1) (by rw [hT.blk]; exact hb1) hun).mono ?_⟩
    rintro e w3 ⟨rfl, s3⟩
    refine ⟨rfl, cellAt s3, ((s3.args hRo).prints hG hl1 hb1 hn).mono ?_⟩
    rintro e w4 ⟨rfl, s4⟩
    exact ⟨rfl, s4⟩
  clear hG hb hR
  go_enter Tryz.func5, Tryz.ntmps5
  go_wp2_with fail
  refine H9.out.mono ?_
  rintro e w1 ⟨rfl, b1⟩
  have HS0 := hid (TyS.start b1)
  clear H9 b1
  go_wp2_with fail
  have hS0 := HS0.out
  clear HS0
  obtain ⟨T, hT⟩ : ∃ T, T = w1.heap.size := ⟨_, rfl⟩
  rw [← hT] at hS0 ⊢
  clear hT
  have HS0 := hid hS0
  clear hS0
  generalize (w1.alloc (.cells #[.slice none 0 0, .slice none 0 0] 48)) = W0 at *
  go_loopw [4] (fun i wr => ∃ r : Nat, r ≤ oss.length ∧ i = .int .i64 (r : Int) ∧ TyS w T wr) (fun i _ => oss.length - (intOf i).toNat)
  case atStart => exact ⟨0, Nat.zero_le _, rfl, HS0.out⟩
  case round =>
    clear HS0
    obtain ⟨r, hr, rfl, hS⟩ := hrel
    by_cases hlt : r < oss.length
    · obtain ⟨b, off, a, cp, n, rfl, hc0, hC⟩ := HSTEP.out T wr r hlt hS
      have HC := hid hC
      have hr1 : (r : Int) < (oss.length : Int) := by omega
      clear hC hS HSTEP
      go_wp2_with fail
      refine HC.out.mono ?_
      rintro e w2 ⟨rfl, hc1, h1⟩
      have H1 := hid h1
      clear h1 HC hc0
      go_wp2_with fail
      refine H1.out.mono ?_
      rintro e w3 ⟨ua, un, uc, rfl, h2⟩
      have H2 := hid h2
      clear h2 H1 hc1
      go_wp2_with fail
      refine H2.out.mono ?_
      rintro e w4 ⟨rfl, hc3, h3⟩
      have H3 := hid h3
      clear h3 H2
      go_wp2_with fail
      refine H3.out.mono ?_
      rintro e w5 ⟨rfl, h4⟩
      have H4 := hid h4
      clear h4 H3 hc3
      go_wp2
      go_roundw
      case rel => exact ⟨r + 1, by omega, by go_num, H4.out⟩
      case measure => simp [intOf]; omega
    · have HB := hid hS.bel
      clear hS HSTEP
      go_wp2
      go_ret
      exact ⟨rfl, HB.out⟩

end Go.Proofs.YthkkdmblkalknaaGreatDoor
