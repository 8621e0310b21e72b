/-
  FieldSums: the law's walk.
-/
import Derived.Test.YteaebdonnicbkaaLS
import Derived.Test.YteaebdonnicbkaaRSum
namespace Go.Proofs.Yteaebdonnicbkaa
open Go.RowKit

theorem RdN.apart {L G : Nat} {bv : Value} {W w2 : World} {a : Option Addr} {n : Nat} {zs : List Int} (h : RdN (XL L bv) W a n zs) (hb : But (XL L bv) W w2) (hG : bv.ownBlock = some G ∨ W.heap.size ≤ G) : RdN (fun x => x = L ∨ x = G) w2 a n zs := by
  have h2 := h.but hb
  obtain ⟨q1, q2, q3⟩ := h
  obtain ⟨_, _, r3⟩ := h2
  refine ⟨q1, q2, ?_⟩
  rcases q3 with q3 | ⟨b, off, rfl, hb1, hx, _⟩
  · exact .inl q3
  · rcases r3 with r3 | ⟨b', off', e', hb', hx', hc'⟩
    · exact .inl r3
    · simp at e'
      obtain ⟨rfl, rfl⟩ := e'
      refine .inr ⟨b, off, rfl, hb', ?_, hc'⟩
      intro h
      rcases h with h | h
      · exact hx (.inl h)
      · rcases hG with hG | hG
        · exact hx (.inr (by rw [h]; exact hG))
        · omega

set_option maxRecDepth 100000 in
set_option maxHeartbeats 2000000 in
theorem sums_walk (a : Option Addr) (n c : Nat) (zs : List Int) (w : World) (hn : n ≤ 1048576) (hnil : a = none → c = 0) (hR : Rd w.heap.size w a n zs) :
    Calls Try.prog 5 #[.slice a n c] w fun e w' => e = .returned (.bool true) ∧ Below w.heap.size w w' := by
  go_enter Try.func5, Try.ntmps5
  go_wp2_with fail
  refine (awake_any w).mono ?_
  rintro e w1 ⟨rfl, hb1⟩
  have hLn : Lnd (w1.alloc (.cells #[.slice none 0 0, .int .i64 0] 48)) w1.heap.size (.slice none 0 0) 0 := by
    unfold Lnd
    show (w1.heap.push _)[w1.heap.size]? = _
    simp
  have hS0 := hid (show LS (w1.alloc (.cells #[.slice none 0 0, .int .i64 0] 48)) w1.heap.size (.slice none 0 0) from ⟨⟨0, hLn⟩, .inl rfl⟩)
  have hX0 := hid (show ∀ x, XL w1.heap.size (.slice none 0 0) x → w.heap.size ≤ x from fun x h => h.elim (fun h => by rw [h]; exact hb1.size) (fun h => by cases h))
  have hb0 := hid (hb1.alloc hb1.size (.cells #[.slice none 0 0, .int .i64 0] 48))
  clear hLn hb1
  go_wp2_with fail
  generalize w1.heap.size = L at *
  go_loopw [4] (fun i wt => ∃ (k : Nat) (bv : Value), k ≤ 3 ∧ i = .int .i64 (k : Int) ∧ LS wt L bv ∧ (∀ x, XL L bv x → w.heap.size ≤ x) ∧ Below w.heap.size w wt) (fun i _ => 3 - (intOf i).toNat)
  case atStart => exact ⟨0, _, by decide, rfl, hS0.out, hX0.out, hb0.out⟩
  case round =>
    clear hS0 hX0 hb0
    obtain ⟨k, bv, hk, rfl, hS, hX, hbt⟩ := hrel
    by_cases h1 : k = 1
    · subst h1
      go_wp2_with fail
      refine (turned_any a n c zs wr (by omega) hnil ((hR.below hbt).mono hbt.size)).mono ?_
      rintro e w6 ⟨g, cap, rfl, hg, hO, hb6⟩
      have hS2 := hS.but (But.of_below (X := fun _ => False) hb6) (fun x _ h => h)
      have hRd : RdN (XL L bv) w6 (some ⟨g, 0, none⟩) n (turn zs) := hO.rdn (isB_turn hR.2.1) (fun h => by have := hS.there h; omega)
      have hbW : Below w.heap.size w w6 := hbt.trans (hb6.mono hbt.size)
      clear hS hO hb6 hbt hg
      go_wp2_with fail
      refine (Lend_any L bv (some ⟨g, 0, none⟩) n cap (turn zs) w6 (by omega) hS2 hRd).mono ?_
      rintro e w2 ⟨G, M, rfl, hLent, hG, hb2⟩
      have hGB : w.heap.size ≤ G := hG.elim (fun h => hX G (.inr h)) (fun h => Nat.le_trans hbW.size h)
      have hap := hRd.apart hb2 hG
      have hb2' : Below w.heap.size w w2 := hbW.trans (hb2.below hbW.size (fun x hx h => by have := hX x h; omega))
      clear hb2 hRd hS2
      go_wp2_with fail
      refine (Sum_any (some ⟨G, 0, none⟩) n (2 * n + 70) (turn zs) w2 (by omega) (hLent.rd hap.1 hap.2.1)).mono ?_
      rintro e w3 ⟨rfl, hb3⟩
      have hLent3 := hLent.below hb3
      have hap3 := hap.but (But.of_below hb3)
      have hb3' : Below w.heap.size w w3 := hb2'.trans (hb3.mono hb2'.size)
      clear hLent hap hb3 hb2'
      go_wp2_with fail
      refine (refSum_any w3.heap.size (some ⟨g, 0, none⟩) n cap (turn zs) w3 (by omega) hap3.rd).mono ?_
      rintro e w4 ⟨rfl, rfl⟩
      generalize crc (turn zs) = C at *
      go_wp2_with fail
      refine (Back_any L G M (some ⟨g, 0, none⟩) n cap (turn zs) w4 (by omega) hLent3 hap3).mono ?_
      rintro e w5 ⟨rfl, hS5, hb5⟩
      have hb5' : Below w.heap.size w w5 := hb3'.trans (hb5.below hb3'.size (fun x hx h => by omega))
      have hX5 : ∀ x, XL L (.slice (some ⟨G, 0, none⟩) M M) x → w.heap.size ≤ x := fun x h => h.elim (fun h => hX x (.inl h)) (fun h => by cases h; exact hGB)
      clear hb3' hb5 hLent3 hap3
      go_wp2
      go_roundw
      case rel => exact ⟨2, _, by omega, rfl, hS5, hX5, hb5'⟩
      case measure => simp [intOf]
    by_cases h3 : k < 3
    · have hk1 : ((k : Int) == 1) = false := by simp; omega
      have hS2 := hS
      have hRd : RdN (XL L bv) wr a n zs := RdN.of_rd (hR.below hbt) hbt.size (fun x hx h => by have := hX x h; omega)
      have hbW := hbt
      clear hS hbt
      go_wp2_with fail
      refine (Lend_any L bv a n c zs wr (by omega) hS2 hRd).mono ?_
      rintro e w2 ⟨G, M, rfl, hLent, hG, hb2⟩
      have hGB : w.heap.size ≤ G := hG.elim (fun h => hX G (.inr h)) (fun h => Nat.le_trans hbW.size h)
      have hap := hRd.apart hb2 hG
      have hb2' : Below w.heap.size w w2 := hbW.trans (hb2.below hbW.size (fun x hx h => by have := hX x h; omega))
      clear hb2 hRd hS2
      go_wp2_with fail
      refine (Sum_any (some ⟨G, 0, none⟩) n (2 * n + 70) zs w2 (by omega) (hLent.rd hap.1 hap.2.1)).mono ?_
      rintro e w3 ⟨rfl, hb3⟩
      have hLent3 := hLent.below hb3
      have hap3 := hap.but (But.of_below hb3)
      have hb3' : Below w.heap.size w w3 := hb2'.trans (hb3.mono hb2'.size)
      clear hLent hap hb3 hb2'
      go_wp2_with fail
      refine (refSum_any w3.heap.size a n c zs w3 (by omega) hap3.rd).mono ?_
      rintro e w4 ⟨rfl, rfl⟩
      generalize crc zs = C at *
      go_wp2_with fail
      refine (Back_any L G M a n c zs w4 (by omega) hLent3 hap3).mono ?_
      rintro e w5 ⟨rfl, hS5, hb5⟩
      have hb5' : Below w.heap.size w w5 := hb3'.trans (hb5.below hb3'.size (fun x hx h => by omega))
      have hX5 : ∀ x, XL L (.slice (some ⟨G, 0, none⟩) M M) x → w.heap.size ≤ x := fun x h => h.elim (fun h => hX x (.inl h)) (fun h => by cases h; exact hGB)
      clear hb3' hb5 hLent3 hap3
      go_wp2
      go_roundw
      case rel => exact ⟨k + 1, _, by omega, by go_num, hS5, hX5, hb5'⟩
      case measure => simp [intOf]; omega
    · go_wp2
      go_ret
      exact ⟨rfl, hbt⟩

end Go.Proofs.Yteaebdonnicbkaa
