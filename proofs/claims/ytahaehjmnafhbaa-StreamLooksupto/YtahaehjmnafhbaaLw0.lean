/-
  StreamLooks: the law.
-/
import Derived.Test.YtahaehjmnafhbaaRl1
import Derived.Test.YtahaehjmnafhbaaTu0
import Derived.Test.YtahaehjmnafhbaaLS
namespace Go.Proofs.Ytahaehjmnafhbaa
open Go.RowKit

theorem hdV_agg (x : Option (Hd × List Rn)) : ∃ s1 i1 s2 i2 i3, hdV x = .agg #[.string s1, .int .i64 i1, .string s2, .int .i64 i2, .int .i64 i3] := by
  cases x with
  | none => exact ⟨_, _, _, _, _, rfl⟩
  | some p => obtain ⟨h, l⟩ := p; exact ⟨_, _, _, _, _, rfl⟩
abbrev hcs (s1 s2 : ByteArray) (i1 i2 i3 : Int) : Array Value := #[.string s1, .int .i64 i1, .string s2, .int .i64 i2, .int .i64 i3]
def CE (w : World) (b : Nat) (s1 s2 : ByteArray) (i1 i2 i3 : Int) : Prop := w.cell? ⟨b, 0, none⟩ = some (.string s1) ∧ w.cell? ⟨b, 1, none⟩ = some (.int .i64 i1) ∧ w.cell? ⟨b, 2, none⟩ = some (.string s2) ∧ w.cell? ⟨b, 3, none⟩ = some (.int .i64 i2) ∧ w.cell? ⟨b, 4, none⟩ = some (.int .i64 i3)
theorem CE.of {w : World} {b : Nat} {s1 s2 : ByteArray} {i1 i2 i3 : Int} (h : w.heap[b]? = some (.cells (hcs s1 s2 i1 i2 i3) 27 (0, 0))) : CE w b s1 s2 i1 i2 i3 :=
  ⟨by simp [World.cell?, h], by simp [World.cell?, h], by simp [World.cell?, h], by simp [World.cell?, h], by simp [World.cell?, h]⟩

/-- one round -/
def Rnd (L n : Nat) (args : Array Value) (wt : World) (Q : World → Prop) : Prop :=
  Calls Try.prog 4 args wt fun e w1 => ∃ na nc, e = .returned (.slice na n nc) ∧
    Calls Try.prog 6 #[.pointer (some ⟨L, 0, none⟩), .slice na n nc] w1 fun e w2 => ∃ G gc, e = .returned (.slice (some ⟨G, 0, none⟩) n gc) ∧
    Calls Try.prog 5 #[.slice (some ⟨G, 0, none⟩) n gc] w2 fun e w3 => ∃ s1 s2 i1 i2 i3 E, e = .returned (.tuple #[.agg (hcs s1 s2 i1 i2 i3), .int .i64 E]) ∧ ∃ w4 hb, w4 = w3.alloc (.cells (hcs s1 s2 i1 i2 i3) 27) ∧ hb = w3.heap.size ∧
    Calls Try.prog 7 #[.slice na n nc] w4 fun e w5 => e = .returned (.tuple #[.agg (hcs s1 s2 i1 i2 i3), .int .i64 E]) ∧ ∃ w6 wb, w6 = w5.alloc (.cells (hcs s1 s2 i1 i2 i3) 27) ∧ wb = w5.heap.size ∧
    Calls Try.prog 8 #[.pointer (some ⟨L, 0, none⟩), .slice na n nc] w6 fun e w7 => e = .returned (.bool true) ∧ CE w7 hb s1 s2 i1 i2 i3 ∧ CE w7 wb s1 s2 i1 i2 i3 ∧ Q w7

/-- what a round keeps -/
def Kp (B L : Nat) (w wt : World) : Prop := ∃ bv, LS wt L bv ∧ (∀ x, XL L bv x → B ≤ x) ∧ Below B w wt

theorem RdN.apart {L G : Nat} {bv : Value} {W w2 : World} {a : Option Addr} {n : Nat} {zs : List Int} (h : RdN (XL L bv) W a n zs) (hb : But (XL L bv) W w2) (hG : bv.ownBlock = some G ∨ W.heap.size ≤ G) : RdN (fun x => x = L ∨ x = G) w2 a n zs := by
  have h2 := h.but hb
  obtain ⟨q1, q2, q3⟩ := h
  obtain ⟨_, _, r3⟩ := h2
  refine ⟨q1, q2, ?_⟩
  rcases q3 with q3 | ⟨b, off, rfl, hb1, hx, _⟩
  · exact .inl q3
  · rcases r3 with r3 | ⟨b', off', e', hb', hx', hc'⟩
    · exact .inl r3
    · simp at e'
      obtain ⟨rfl, rfl⟩ := e'
      refine .inr ⟨b, off, rfl, hb', ?_, hc'⟩
      intro h
      rcases h with h | h
      · exact hx (.inl h)
      · rcases hG with hG | hG
        · exact hx (.inr (by rw [h]; exact hG))
        · omega

set_option maxHeartbeats 2000000 in
/-- behind Turned -/
theorem round_rest {B L n nc : Nat} {w w1 : World} {bv : Value} {na : Option Addr} {ys : List Int} (hn : n ≤ 1048576) (hyl : ys.length = n) (hyB : Pl.isB ys) (hS : LS w1 L bv) (hX : ∀ x, XL L bv x → B ≤ x) (hbl : Below B w w1) (hR : RdN (XL L bv) w1 na n ys)
    (hLk : ∀ W, w1.heap.size ≤ W.heap.size → Rd W.heap.size W na n ys → Calls Try.prog 7 #[.slice na n nc] W fun e w' => e = .returned (.tuple #[hdV (takP ys).2, .int .i64 (takP ys).1]) ∧ Below W.heap.size W w') :
    Calls Try.prog 6 #[.pointer (some ⟨L, 0, none⟩), .slice na n nc] w1 fun e w2 => ∃ G gc, e = .returned (.slice (some ⟨G, 0, none⟩) n gc) ∧
    Calls Try.prog 5 #[.slice (some ⟨G, 0, none⟩) n gc] w2 fun e w3 => ∃ s1 s2 i1 i2 i3 E, e = .returned (.tuple #[.agg (hcs s1 s2 i1 i2 i3), .int .i64 E]) ∧ ∃ w4 hb, w4 = w3.alloc (.cells (hcs s1 s2 i1 i2 i3) 27) ∧ hb = w3.heap.size ∧
    Calls Try.prog 7 #[.slice na n nc] w4 fun e w5 => e = .returned (.tuple #[.agg (hcs s1 s2 i1 i2 i3), .int .i64 E]) ∧ ∃ w6 wb, w6 = w5.alloc (.cells (hcs s1 s2 i1 i2 i3) 27) ∧ wb = w5.heap.size ∧
    Calls Try.prog 8 #[.pointer (some ⟨L, 0, none⟩), .slice na n nc] w6 fun e w7 => e = .returned (.bool true) ∧ CE w7 hb s1 s2 i1 i2 i3 ∧ CE w7 wb s1 s2 i1 i2 i3 ∧ Kp B L w w7 := by
  obtain ⟨s1, i1, s2, i2, i3, hagg⟩ := hdV_agg (takP ys).2
  subst hyl
  refine Calls.mono (Lend_any L bv na ys.length nc ys w1 (by omega) hS hR) ?_
  rintro e w2 ⟨G, M, rfl, hLent, hG, hb2⟩
  have hap := hR.apart hb2 hG
  have hz2 := hb2.size
  have hB1 : B ≤ w1.heap.size := by have := hX L (.inl rfl); have := hS.lt; omega
  have hGB : B ≤ G := hG.elim (fun h => hX G (.inr h)) (fun h => Nat.le_trans hB1 h)
  have hGl : G < w2.heap.size := by obtain ⟨zs, hb, _⟩ := hLent.buf; exact hb.lt
  have hLl : L < w2.heap.size := hLent.num.lt
  have hrd := hLent.rd rfl hyB
  have hbl2 : Below B w w2 := hbl.trans (hb2.below hB1 (fun x hx h => by have := hX x h; omega))
  have hcell : ∀ t, t < ys.length → w2.cell? ⟨G, 0 + t, none⟩ = some (.int .u8 (ys.getD t 0)) := fun t ht => by
    obtain ⟨b, off, e, _, hc⟩ := hrd.2.2.resolve_left (by omega)
    simp at e
    obtain ⟨rfl, rfl⟩ := e
    exact hc t ht
  refine ⟨G, 2 * ys.length + 70, rfl, Calls.mono (Look_any hyB (by omega) hGl hcell (by omega)) ?_⟩
  rintro e w3 ⟨rfl, b3⟩
  rw [hagg]
  obtain ⟨w4, hw4⟩ : ∃ w4, w4 = w3.alloc (.cells (hcs s1 s2 i1 i2 i3) 27) := ⟨_, rfl⟩
  have b4 : Below w3.heap.size w3 w4 := by rw [hw4]; exact (Below.refl _ _).alloc (Nat.le_refl _) _
  have z4 : w4.heap.size = w3.heap.size + 1 := by rw [hw4]; simp
  have h4 : w4.heap[w3.heap.size]? = some (.cells (hcs s1 s2 i1 i2 i3) 27 (0, 0)) := by rw [hw4]; exact Array.getElem?_push_size
  have hz3 := b3.size
  have b24 : Below w2.heap.size w2 w4 := b3.trans (b4.mono (by omega))
  have hap4 := hap.but (But.of_below b24)
  refine ⟨s1, s2, i1, i2, i3, (takP ys).1, rfl, w4, w3.heap.size, hw4, rfl, Calls.mono (hLk w4 (by omega) hap4.rd) ?_⟩
  rintro e w5 ⟨rfl, b5⟩
  rw [hagg]
  obtain ⟨w6, hw6⟩ : ∃ w6, w6 = w5.alloc (.cells (hcs s1 s2 i1 i2 i3) 27) := ⟨_, rfl⟩
  have b6 : Below w5.heap.size w5 w6 := by rw [hw6]; exact (Below.refl _ _).alloc (Nat.le_refl _) _
  have z6 : w6.heap.size = w5.heap.size + 1 := by rw [hw6]; simp
  have h6 : w6.heap[w5.heap.size]? = some (.cells (hcs s1 s2 i1 i2 i3) 27 (0, 0)) := by rw [hw6]; exact Array.getElem?_push_size
  have hz5 := b5.size
  have b26 : Below w2.heap.size w2 w6 := b24.trans ((b5.trans (b6.mono (by omega))).mono (by omega))
  have hLent6 := hLent.below b26
  have hap6 := hap.but (But.of_below b26)
  refine ⟨rfl, w6, w5.heap.size, hw6, rfl, Calls.mono (Back_any L G M na ys.length nc ys w6 (by omega) hLent6 hap6) ?_⟩
  rintro e w7 ⟨rfl, hS7, hb7⟩
  refine ⟨rfl, CE.of ?_, CE.of ?_, _, hS7, fun x h => h.elim (fun h => hX x (.inl h)) (fun h => by cases h; exact hGB), ?_⟩
  · rw [hb7.block w3.heap.size (by omega) (by omega), b6.block w3.heap.size (by omega), b5.block w3.heap.size (by omega)]
    exact h4
  · rw [hb7.block w5.heap.size (by omega) (by omega)]
    exact h6
  · have hbl6 : Below B w w6 := hbl2.trans (b26.mono (by omega))
    exact hbl6.trans (hb7.below (by omega) (fun x hx h => by omega))

set_option maxHeartbeats 2000000 in
theorem round_any {B L n c : Nat} {w wt : World} {a : Option Addr} {zs : List Int} (k : Int) (hn : n ≤ 1048576) (hnil : a = none → c = 0) (hwB : w.heap.size = B) (hR : Rd B w a n zs) (h : Kp B L w wt) : Rnd L n #[.slice a n c, .int .i64 k] wt (Kp B L w) := by
  obtain ⟨bv, hS, hX, hbl⟩ := h
  have hBt : B ≤ wt.heap.size := by have := hbl.size; omega
  have hRt : Rd wt.heap.size wt a n zs := (hR.below hbl).mono hBt
  unfold Rnd
  cases a with
  | none =>
    have hn0 : n = 0 := by
      rcases hR.2.2 with z | ⟨_, _, z, _⟩
      · exact z
      · cases z
    have hc0 := hnil rfl
    subst hn0
    subst hc0
    refine Calls.mono (Turned_nil k wt) ?_
    rintro e w1 ⟨rfl, rfl⟩
    refine ⟨none, 0, rfl, round_rest (ys := []) hn rfl Pl.isB_nil hS hX hbl ⟨rfl, Pl.isB_nil, .inl rfl⟩ (fun W _ _ => rLook_nil W)⟩
  | some ad =>
    refine Calls.mono (Turned_any ad n c k zs wt (by omega) hRt) ?_
    rintro e w1 ⟨g, ys, rfl, hg, hyl, hyB, hBk, b1⟩
    have hS1 := hS.but (But.of_below (X := fun _ => False) b1) (fun x _ h => h)
    have hbl1 : Below B w w1 := hbl.trans (b1.mono hBt)
    have hRN : RdN (XL L bv) w1 (some ⟨g, 0, none⟩) n ys := by rw [← hyl]; exact RdN.of_blk hBk hyB (fun h => by have := hS.there h; omega)
    subst hyl
    refine ⟨some ⟨g, 0, none⟩, ys.length, rfl, round_rest hn rfl hyB hS1 hX hbl1 hRN (fun W hW hRW => rLook_any hyB (Nat.le_refl _) (by have := hBk.lt; omega) (fun t ht => ?_) (by omega))⟩
    obtain ⟨b, off, e, _, hc⟩ := hRW.2.2.resolve_left (by omega)
    simp at e
    obtain ⟨rfl, rfl⟩ := e
    exact hc t ht

set_option maxRecDepth 100000 in
set_option maxHeartbeats 4000000 in
theorem looks_law (a : Option Addr) (n c : Nat) (zs : List Int) (w : World) (hn : n ≤ 1048576) (hnil : a = none → c = 0) (hR : Rd w.heap.size w a n zs) :
    Calls Try.prog 3 #[.slice a n c] w fun e w' => e = .returned (.bool true) ∧ Below w.heap.size w w' := by
  obtain ⟨w0, hw0⟩ : ∃ w0, w0 = w.alloc (.cells #[.slice none 0 0, .int .i64 0] 24) := ⟨_, rfl⟩
  have b0 : Below w.heap.size w w0 := by rw [hw0]; exact (Below.refl _ _).alloc (Nat.le_refl _) _
  have hK0 : Kp w.heap.size w.heap.size w w0 := by
    refine ⟨.slice none 0 0, ⟨⟨0, ?_⟩, .inl rfl⟩, fun x h => h.elim (fun h => by omega) (fun h => by cases h), b0⟩
    unfold Lnd
    rw [hw0]
    exact Array.getElem?_push_size
  have HRD : Hid (∀ (k : Int) wt, Kp w.heap.size w.heap.size w wt → Rnd w.heap.size n #[.slice a n c, .int .i64 k] wt (Kp w.heap.size w.heap.size w)) := fun k wt h => round_any k hn hnil rfl hR h
  have HK0 := hid hK0
  have HW0 := hid hw0
  obtain ⟨L, hL⟩ : ∃ L, L = w.heap.size := ⟨_, rfl⟩
  have HL := hid hL
  clear hK0 hw0 b0 hL hR
  go_enter Try.func3, Try.ntmps3
  go_wp2_with fail
  rw [← HW0.out]
  rw [← HL.out] at HRD HK0
  rw [← HL.out]
  go_loopw [4] (fun iv wt => ∃ q : Nat, q ≤ 4 ∧ iv = .int .i64 (q : Int) ∧ Kp L L w wt) (fun iv _ => 4 - (intOf iv).toNat)
  case atStart => exact ⟨0, by decide, rfl, HK0.out⟩
  case round =>
    clear HK0 HW0
    obtain ⟨q, hq, rfl, hK⟩ := hrel
    by_cases hq4 : q ≤ 3
    · have hq' : (q : Int) ≤ 3 := by omega
      have hr := HRD.out (q : Int) wr hK
      unfold Rnd at hr
      have H4 := hid hr
      clear hr hK
      go_wp2_with fail
      refine Calls.mono H4.out ?_
      rintro e w1 ⟨na, nc, rfl, h⟩
      have H6 := hid h
      clear h H4
      go_wp2_with fail
      refine Calls.mono H6.out ?_
      rintro e w2 ⟨G, gc, rfl, h⟩
      have H5 := hid h
      clear h H6
      go_wp2_with fail
      refine Calls.mono H5.out ?_
      rintro e w3 ⟨s1, s2, i1, i2, i3, E, rfl, w4, hb, hw4, hhb, h⟩
      have H7 := hid h
      have HW4 := hid hw4
      have HHB := hid hhb
      clear h hw4 hhb H5
      go_wp2_with fail
      rw [← HW4.out, ← HHB.out]
      clear HW4 HHB
      refine Calls.mono H7.out ?_
      rintro e w5 ⟨rfl, w6, wb, hw6, hwb, h⟩
      have H8 := hid h
      have HW6 := hid hw6
      have HWB := hid hwb
      clear h hw6 hwb H7
      go_wp2_with fail
      rw [← HW6.out, ← HWB.out]
      clear HW6 HWB
      refine Calls.mono H8.out ?_
      rintro e w7 ⟨rfl, ⟨a0, a1, a2, a3, a4⟩, ⟨c0, c1, c2, c3, c4⟩, hK7⟩
      have HK7 := hid hK7
      clear hK7 H8
      go_wp2_with (go_at_call 9; refine (num_any _ _).mono ?_; rintro e w8 ⟨rfl, rfl⟩)
      go_roundw
      case rel => exact ⟨q + 1, by omega, by go_num, HK7.out⟩
      case measure => simp [intOf]; omega
    · have hq' : ¬ (q : Int) ≤ 3 := by omega
      obtain ⟨_, _, _, hbw⟩ := hK
      have FE := hid hbw
      clear hbw
      go_wp2
      go_ret
      exact ⟨rfl, by rw [← HL.out]; exact FE.out⟩

end Go.Proofs.Ytahaehjmnafhbaa
