import Derived.Test.YtoifmiloaefanaaDoorZUr3
import Derived.Test.YtoifmiloaefanaaDoorZOt0
import Derived.Lib.ItoaLen
/-
  LexUntokens: the law.
-/
namespace Go.Proofs.YtoifmiloaefanaaDoor
open Go.RowKit

/-- a token as it is handed in -/
def TkH (t : Tk) : Prop := Pl.isB t.tx ∧ t.tx.length ≤ 1048576 ∧ -9223372036854775808 ≤ t.n ∧ t.n ≤ 9223372036854775807
theorem isB_itoA (n : Int) : Pl.isB (itoL n) := fun z hz => by
  unfold itoL at hz
  obtain ⟨b, _, rfl⟩ := List.mem_map.1 hz
  have := b.toNat_lt
  omega
theorem TkH.g {t : Tk} (h : TkH t) : TkG t := by
  obtain ⟨k, l, n, a⟩ := t
  obtain ⟨h1, h2, h3, h4⟩ := h
  simp only at h1 h2 h3 h4
  have hB : Pl.isB (wrT ⟨k, l, n, a⟩) ∧ (wrT ⟨k, l, n, a⟩).length ≤ 16777216 := by
    unfold wrT
    by_cases k3 : k = 3
    · rw [if_pos k3]
      refine ⟨isB_itoA n, ?_⟩
      have := Lib.itoa_length_le n h3 h4
      unfold itoL
      rw [List.length_map]
      show (Lib.itoa n).length ≤ _
      omega
    · rw [if_neg k3]
      unfold wrL
      simp only
      split
      · exact ⟨h1, by omega⟩
      split
      · refine ⟨fun z hz => ?_, by simp; omega⟩
        simp at hz
        rcases hz with rfl | hz | rfl
        · omega
        · exact h1 z hz
        · omega
      · exact ⟨fun z hz => by simp at hz, by simp⟩
  exact ⟨hB.1, hB.2, h3, h4, by simp only; omega⟩
theorem revK_mem (ts : List Tk) : ∀ k, ∀ t ∈ revK ts k, t ∈ ts ∨ t = tkZ
  | 0, t, h => .inl h
  | k + 1, t, h => by
    rw [revK] at h
    rcases List.mem_or_eq_of_mem_set h with h | rfl
    · exact revK_mem ts k t h
    · rw [List.getD_eq_getElem?_getD]
      by_cases q : ts.length - 1 - k < ts.length
      · rw [List.getElem?_eq_getElem q]
        exact .inl (List.getElem_mem _)
      · rw [List.getElem?_eq_none (by omega)]
        exact .inr rfl
theorem tkZ_h : TkH tkZ := ⟨fun z hz => by simp [tkZ] at hz, by simp [tkZ], by simp [tkZ], by simp [tkZ]⟩
theorem BlT.keep {w w' : World} {g : Nat} {ts : List Tk} (h : BlT w g ts) (hw : w'.heap[g]? = w.heap[g]?) : BlT w' g ts := by unfold BlT at *; rw [hw]; exact h
theorem owT_keepAt {B : Nat} {w w' : World} {g n c : Nat} {ts : List Tk} (h : OwT B w (.slice (some ⟨g, 0, none⟩) n c) ts) (hw : w'.heap[g]? = w.heap[g]?) : OwT B w' (.slice (some ⟨g, 0, none⟩) n c) ts :=
  own_keep h fun g' hg' => by simp [Value.ownBlock] at hg'; subst hg'; exact hw
/-- between two rounds -/
def UlI (w : World) (G n : Nat) (wr : World) : Prop := ∃ us : List Tk, us.length = n ∧ w.heap.size ≤ G ∧ BlT wr G (us ++ othT n (n + 70)) ∧ Below w.heap.size w wr
/-- the calls of a round -/
def UlC (w : World) (a : Option Addr) (n c G : Nat) (tv : Value) (wr : World) : Prop := Calls Tryd.prog 14 #[.slice a n c, tv] wr fun e w2 => ∃ g cc w3, e = .returned (.slice (some ⟨g, 0, none⟩) n cc) ∧ (Builtin.copy_ #[23, 23] 3 #[.slice (some ⟨G, 0, none⟩) n (2 * n + 70), .slice (some ⟨g, 0, none⟩) n cc]).run Tryd.prog w2 = .ok (.int .i64 (n : Int)) w3 ∧
  Calls Tryd.prog 9 #[.slice (some ⟨G, 0, none⟩) n (2 * n + 70)] w3 fun e w4 => ∃ S k, e = .returned (.tuple #[.string S, .int .i64 k]) ∧ Calls Tryd.prog 15 #[.slice (some ⟨g, 0, none⟩) n cc] w4 fun e w5 => e = .returned (.tuple #[.string S, .int .i64 k]) ∧ Calls Tryd.prog 8 #[.int .i64 k] w5 fun e w6 => e = .returned (.int .i64 k) ∧
  Calls Tryd.prog 16 #[.slice (some ⟨G, 0, none⟩) n (2 * n + 70), .slice (some ⟨g, 0, none⟩) n cc] w6 fun e w7 => e = .returned (.bool true) ∧ UlI w G n w7
theorem ulc_any {w wr : World} {a : Option Addr} {n c G : Nat} {tv : Value} {ls : List Tk} (hl : ls.length = n) (hN : n ≤ 1048576) (hG : GT w) (hh : ∀ t ∈ ls, TkH t) (hI : UlI w G n wr) (hO : Calls Tryd.prog 14 #[.slice a n c, tv] wr (OtQ wr n ls)) : UlC w a n c G tv wr := by
  obtain ⟨us, hu, hGw, hB, hBe⟩ := hI
  refine hO.mono ?_
  rintro e w2 ⟨g, cc, rfl, hg, hOw, b2⟩
  have zG := hB.lt
  have z0 := hBe.size
  have z2 := b2.size
  have hB2 : BlT w2 G (us ++ othT n (n + 70)) := hB.next b2
  have hOw' : w2.ownsRow wr.heap.size 29 4 (.slice (some ⟨g, 0, none⟩) n cc) n (flatT ls) := by
    have := hOw
    unfold OwT at this
    rw [hl] at this
    exact this
  have hgl := (own_blk hOw (g := g) rfl).2.1
  have hRl := hOw.rd hl.symm
  obtain ⟨w3, hcp, hB3, hb3⟩ := copy_tok (ty := 3) (w := w2) (G := G) (M := n) (dCap := 2 * n + 70) (n := n) (sCap := cc) (ad := ⟨g, 0, none⟩) (ys := us ++ othT n (n + 70)) (cs := ls) hB2 (by rw [flatT_len, hl, show n.min n = n from Nat.min_self n]) (fun j v hv => by
    rw [Addr.add_lit, Nat.zero_add]
    have := World.ownsRow.cellAt hOw' j (by have := (List.getElem?_eq_some_iff.1 hv).1; rw [flatT_len, hl] at this; exact this)
    rw [this]
    exact hv) (by simp; omega)
  rw [show n.min n = n from Nat.min_self n] at hcp
  rw [hl, List.drop_left' hu] at hB3
  have z3 := hb3.size
  have hgG : g ≠ G := by omega
  have hO3 : OwT wr.heap.size w3 (.slice (some ⟨g, 0, none⟩) n cc) ls := owT_keepAt hOw (hb3.block g hgl hgG)
  have bw3 : Below w.heap.size w w3 := (hBe.trans (b2.mono z0)).trans (hb3.below (by omega) (fun x hx e => by omega))
  have hR3 : TkR w3 (some ⟨G, 0, none⟩) ls := by
    have := hB3.rd.take n
    rw [List.take_left' hl] at this
    exact this
  refine ⟨g, cc, w3, rfl, hcp, ?_⟩
  refine (Untoken_all (some ⟨G, 0, none⟩) n (2 * n + 70) ls w3 hl hR3 (hG.next bw3) (fun t ht => (hh t ht).g)).mono ?_
  rintro e w4 ⟨rfl, b4⟩
  refine ⟨_, _, rfl, ?_⟩
  have hO4 : OwT wr.heap.size w4 (.slice (some ⟨g, 0, none⟩) n cc) ls := owT_keepAt hO3 (b4.block g (by omega))
  refine (rUntoken_all (some ⟨g, 0, none⟩) n cc ls w4 hl (hO4.rd hl.symm) (fun t ht => ⟨(hh t ht).1, by have := (hh t ht).2.1; omega⟩)).mono ?_
  rintro e w5 ⟨rfl, b5⟩
  refine ⟨rfl, ?_⟩
  have z4 := b4.size
  have z5 := b5.size
  refine (num_any _ w5).mono ?_
  rintro e w6 ⟨rfl, rfl⟩
  refine ⟨rfl, ?_⟩
  have hO5 : OwT wr.heap.size w6 (.slice (some ⟨g, 0, none⟩) n cc) ls := owT_keepAt hO4 (b5.block g (by omega))
  have hB5 : BlT w6 G (ls ++ othT n (n + 70)) := (hB3.next b4).next b5
  refine (back_yes G n cc (some ⟨g, 0, none⟩) ls w6 hl hN hB5 (hO5.rd hl.symm)).mono ?_
  rintro e w7 ⟨rfl, b7⟩
  have z7 := b7.size
  exact ⟨rfl, ls, hl, hGw, hB5.next b7, ((bw3.trans (b4.mono (by omega))).trans (b5.mono (by omega))).trans (b7.mono (by omega))⟩

set_option maxRecDepth 100000 in
set_option maxHeartbeats 2000000 in
theorem untokens_law (a : Option Addr) (n c : Nat) (ts : List Tk) (w : World) (hn : ts.length = n) (hN : n ≤ 1048576) (hG : GT w) (hO : TkO w a c ts) (hh : ∀ t ∈ ts, TkH t) :
    Calls Tryd.prog 6 #[.slice a n c] w fun e w' => e = .returned (.bool true) ∧ Below w.heap.size w w' := by
  have HL : Hid (Calls Tryd.prog 13 #[.slice a n c] w fun e w' => ∃ G, e = .returned (.slice (some ⟨G, 0, none⟩) n (2 * n + 70)) ∧ UlI w G n w') := by
    refine (lent_any a n c ts w hn hN hO).mono ?_
    rintro e w' ⟨G, rfl, h1, h2, h3⟩
    exact ⟨G, rfl, ts, hn, h1, h2, h3⟩
  have HC : Hid (∀ G wr (j : Nat), j ≤ 3 → UlI w G n wr → UlC w a n c G (.int .i64 (j : Int)) wr) := fun G wr j hj hI => by
    have hOr := hO.next (show Below w.heap.size w wr from hI.choose_spec.2.2.2)
    rcases (show j = 0 ∨ j = 1 ∨ j = 2 ∨ j = 3 by omega) with rfl | rfl | rfl | rfl
    · exact ulc_any hn hN hG hh hI (other_same a n c ts 0 wr hn hN hOr (by decide) (by decide))
    · refine ulc_any (ls := if 0 < n then ts.set (n / 2) ⟨1, [98], 0, 0⟩ else ts) (by split <;> simp [hn]) hN hG (fun t ht => ?_) hI (other_one a n c ts wr hn hN hOr)
      split at ht
      · rcases List.mem_or_eq_of_mem_set ht with h | rfl
        · exact hh t h
        · exact ⟨fun z hz => by simp at hz; omega, by simp, by simp, by simp⟩
      · exact hh t ht
    · refine ulc_any (ls := revK ts n) (by rw [revK_len, hn]) hN hG (fun t ht => ?_) hI (other_two a n c ts wr hn hN hOr)
      rcases revK_mem ts n t ht with h | rfl
      · exact hh t h
      · exact tkZ_h
    · exact ulc_any hn hN hG hh hI (other_same a n c ts 3 wr hn hN hOr (by decide) (by decide))
  clear hO hh hG hn
  go_enter Tryd.func6, Tryd.ntmps6
  go_wp2_with fail
  refine Calls.mono HL.out ?_
  rintro e w1 ⟨G, rfl, h⟩
  have H1 := hid h
  clear h HL
  go_wp2_with fail
  go_loopw [4] (fun iv wr => ∃ j : Nat, iv = .int .i64 (j : Int) ∧ j ≤ 4 ∧ UlI w G n wr) (fun iv _ => 4 - (intOf iv).toNat)
  case atStart => exact ⟨0, rfl, by omega, H1.out⟩
  case round =>
    clear H1
    obtain ⟨j, rfl, hj, hI⟩ := hrel
    by_cases q : j ≤ 3
    · have q' : (j : Int) ≤ 3 := by omega
      have H14 := hid (HC.out G wr j q hI)
      clear hI
      go_wp2_with fail
      refine Calls.mono H14.out ?_
      rintro e w2 ⟨g, cc, w3, rfl, hcp, h⟩
      have H9 := hid h
      clear h H14
      go_wp2_with fail
      refine Calls.mono H9.out ?_
      rintro e w4 ⟨S, k, rfl, h⟩
      have H15 := hid h
      clear h H9
      go_wp2_with fail
      refine Calls.mono H15.out ?_
      rintro e w5 ⟨rfl, h⟩
      have H8 := hid h
      clear h H15
      go_wp2_with fail
      refine Calls.mono H8.out ?_
      rintro e w6 ⟨rfl, h⟩
      have H16 := hid h
      clear h H8
      have hs : (S.toList == S.toList) = true := by simp
      go_wp2_with fail
      refine Calls.mono H16.out ?_
      rintro e w7 ⟨rfl, h⟩
      have HE := hid h
      clear h H16
      go_wp2_with fail
      exact ⟨⟨j + 1, by go_num, by omega, HE.out⟩, by simp [intOf]; omega⟩
    · obtain rfl : j = 4 := by omega
      have HB := hid hI.choose_spec.2.2.2
      clear hI
      go_wp2_with fail
      go_ret
      exact ⟨rfl, HB.out⟩

end Go.Proofs.YtoifmiloaefanaaDoor
