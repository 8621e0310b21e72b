/-
  A desk: write (function 31).
-/
import Derived.Test.YteokekllbpkemaaDs0
namespace Go.Proofs.Yteokekllbpkemaa
open Go.RowKit

/-- the tags behind a write -/
def wrK (κ : Nat → Nat) (t S G S1 S2 y : Nat) : Nat := if y < S then κ y else if y = G then t + 1 else if S1 ≤ y ∧ y < S2 then t + 2 else if S2 ≤ y then t + 3 else 0

set_option maxRecDepth 100000 in
set_option maxHeartbeats 2000000 in
theorem dwrite_any {t : Nat} {κ : Nat → Nat} {w : World} {x p r : Nat} {bv kv : Value} {img : List Int} {puts : List (Nat × List Int)} {fu : Int} {off : Bool} {nb m : Nat}
    (h1 : LS (.pointer (some ⟨p, 0, none⟩), .pointer (some ⟨r, 0, none⟩), kv) w x bv) (h2 : ∀ y, XL x bv y → κ y = t + 1) (h3 : KS w kv) (h4 : ∀ g, kv.ownBlock = some g → κ g = t + 4)
    (hD : Dk (fun y => κ y = t + 2) w p img puts fu off nb) (hK : Rk (fun y => κ y = t + 3) w r img puts fu off nb) (hm : puts.length ≤ m) (hm2 : m ≤ 1073741823)
    (at_ : Int) (ad : Option Addr) (n c : Nat) (zs : List Int) (hn : n ≤ 16777216) (hR : RdN (fun y => tg t (κ y)) w ad n zs) :
    Calls Try.prog 31 #[.pointer (some ⟨x, 0, none⟩), .int .i64 at_, .slice ad n c] w fun e w' => e = .returned (.bool true) ∧ ∃ κ', Dsk t κ' w' x (m + 1) ∧ (∀ y, y < w.heap.size → κ' y = κ y) ∧ But (fun y => tg t (κ y)) w w' := by
  have hxl := h1.lt
  have k1 : ∀ y, XL x bv y → y < w.heap.size := fun y hy => h1.there hy
  have hD0 : Dk (fun y => cutK κ w.heap.size y = t + 2) w p img puts fu off nb := hD.cut.mono (fun y hy => by rw [cutK_lo κ hy.2]; exact hy.1)
  have hK0 : Rk (fun y => cutK κ w.heap.size y = t + 3) w r img puts fu off nb := hK.cut.mono (fun y hy => by rw [cutK_lo κ hy.2]; exact hy.1)
  have x2 : ∀ y, XL x bv y → cutK κ w.heap.size y = t + 1 := fun y hy => by rw [cutK_lo κ (k1 y hy)]; exact h2 y hy
  have hR0 : RdN (fun y => tg t (cutK κ w.heap.size y)) w ad n zs := hR.mono (fun y hy h => by rw [cutK_lo κ hy] at h; exact h)
  have HLd := hid (Lend_any x bv ad n c zs w.drew (by omega) (h1.but (But.refl (fun _ => False) w).drew (fun _ _ h => h)) ((hR0.mono (Y := XL x bv) (fun y _ hy => by have := x2 y hy; unfold tg; omega)).but (But.refl _ w).drew))
  obtain ⟨N, hN⟩ := h1.1
  have q0 := hN.dsk.1
  have Hh := hid (And.intro h1 (And.intro h2 (And.intro h3 (And.intro h4 x2))))
  have HD := hid hD0
  have HK := hid hK0
  have HR := hid hR0
  clear h1 h2 h3 h4 hD hK hD0 hK0 hR hR0 hN x2
  have HA1 : Hid (∀ w1 G M, Lent (.pointer (some ⟨p, 0, none⟩), .pointer (some ⟨r, 0, none⟩), kv) w1 x G M n zs → (bv.ownBlock = some G ∨ w.drew.heap.size ≤ G) → But (XL x bv) w.drew w1 →
      w1.cell? ⟨x, 0, none⟩ = some (.pointer (some ⟨p, 0, none⟩)) ∧ But (XL x bv) w w1 ∧ (cutK κ w.heap.size G = t + 1 ∨ (w.heap.size ≤ G ∧ cutK κ w.heap.size G = 0)) ∧ G < w1.heap.size ∧
      Calls Try.prog 50 #[.pointer (some ⟨p, 0, none⟩), .int .i64 at_, .slice (some ⟨G, 0, none⟩) n (2 * n + 70)] w1 fun e w' => e = .returned (.int .i64 (writeC off fu nb at_ n)) ∧ Dk (fun y => cutK κ w.heap.size y = t + 2 ∨ w1.heap.size ≤ y) w' p img (if writeC off fu nb at_ n = 0 then puts ++ [(at_.toNat, zs)] else puts) (writeF off fu nb at_ n) (writeO off fu nb at_ n) nb ∧ But (fun y => cutK κ w.heap.size y = t + 2) w1 w') := by
    intro w1 G M hLent hG hb1
    have hb1' : But (XL x bv) w w1 := ⟨hb1.os, hb1.tape, hb1.output, hb1.size, hb1.block⟩
    have hD1 := HD.out.but hb1' (fun y hy hx => by have := Hh.out.2.2.2.2 y hx; omega)
    have hGt : cutK κ w.heap.size G = t + 1 ∨ (w.heap.size ≤ G ∧ cutK κ w.heap.size G = 0) := hG.elim (fun e => .inl (Hh.out.2.2.2.2 G (.inr e))) (fun e => .inr ⟨e, cutK_hi κ e⟩)
    have hGl : G < w1.heap.size := by obtain ⟨ys, hB', _⟩ := hLent.buf; exact hB'.lt
    obtain ⟨r1, r2, r3⟩ := hLent.rd HR.out.1 HR.out.2.1
    have hrn : RdN (fun y => cutK κ w.heap.size y = t + 2) w1 (some ⟨G, 0, none⟩) n zs := by
      refine ⟨r1, r2, ?_⟩
      rcases r3 with r3 | ⟨b, o, e, r4, r5⟩
      · exact .inl r3
      · cases e
        exact .inr ⟨G, 0, rfl, r4, fun h => by omega, r5⟩
    exact ⟨hLent.num.dsk.1, hb1', hGt, hGl, Write_any hD1 (by omega) at_ (some ⟨G, 0, none⟩) n (2 * n + 70) zs hrn⟩
  go_enter Try.func31, Try.ntmps31
  go_wp2_with fail
  go_region_held3 (fun w' => w'.cell? ⟨x, 0, none⟩ = some (.pointer (some ⟨p, 0, none⟩))) (first | assumption | go_keep)
    ((first
      | (go_at_call 26; refine Calls.mono HLd.out ?_; rintro e w1 ⟨G, M, rfl, hLent, hG, hb1⟩
         have L0 := hid (HA1.out w1 G M hLent hG hb1)
         have LL := hid hLent
         have j0 : w1.cell? ⟨x, 0, none⟩ = some (.pointer (some ⟨p, 0, none⟩)) := L0.out.1
         clear hLent hG hb1)
      | (go_at_call 50; refine Calls.mono L0.out.2.2.2.2 ?_; rintro e w2 ⟨rfl, hD2, hb2⟩
         have i0 : w2.cell? ⟨x, 0, none⟩ = some (.pointer (some ⟨p, 0, none⟩)) := (hb2.cell (p := ⟨x, 0, none⟩) (Nat.lt_of_lt_of_le hxl L0.out.2.1.size) (by have := Hh.out.2.2.2.2 x (.inl rfl); show ¬ cutK κ w.heap.size x = t + 2; omega)).trans j0
         have W2 := hid (And.intro hD2 hb2)
         clear hD2 hb2)))
  obtain ⟨_, hb1, hGt, hGl, _⟩ := L0.out
  obtain ⟨hD2, hb2⟩ := W2.out
  have xt := Hh.out.2.2.2.2 x (.inl rfl)
  have u1 : But (fun y => tg t (cutK κ w.heap.size y)) w w1 := hb1.mono (fun y _ hy => by have := Hh.out.2.2.2.2 y hy; unfold tg; omega)
  have u2 : But (fun y => tg t (cutK κ w.heap.size y)) w w2 := u1.trans (hb2.mono (fun y _ hy => by unfold tg; omega))
  have hK2 := (HK.out.but hb1 (fun y hy hx => by have := Hh.out.2.2.2.2 y hx; omega)).but hb2 (fun y hy hx => by omega)
  have hLe2 := LL.out.but hb2 (by omega) (by omega)
  have q1 : w2.cell? ⟨x, 1, none⟩ = some (.pointer (some ⟨r, 0, none⟩)) := hLe2.num.dsk.2.1
  have HW3 := hid (refWrite_any hK2 (by omega) at_ ad n c zs ((HR.out.but u2).mono (fun y _ hy => by unfold tg; omega)))
  have Hu2 := hid u2
  have HLe2 := hid hLe2
  have HD2 := hid hD2.cut
  have Hb2 := hid hb2
  have Hsz := hid (And.intro u1.size hb2.size)
  have Hkv := hid (show ∀ g, κ g = t + 4 → g < w.heap.size → w2.heap[g]? = w.heap[g]? from fun g e hg => (hb2.block g (Nat.lt_of_lt_of_le hg u1.size) (by rw [cutK_lo κ hg]; omega)).trans (hb1.block g hg (fun hx => by have := Hh.out.2.1 g hx; omega)))
  have HGt := hid (And.intro hGt hGl)
  clear u1 u2 hK2 hLe2 hD2 hb1 hb2 W2 L0 q0 j0 i0 HLd HA1 LL hGt hGl
  go_wp2_with fail
  refine Calls.mono HW3.out ?_
  rintro e w3 ⟨rfl, hK3, hb3⟩
  obtain ⟨hGt, hGl⟩ := HGt.out
  have hLe3 := HLe2.out.but hb3 (by omega) (by omega)
  have u3 : But (fun y => tg t (cutK κ w.heap.size y)) w w3 := Hu2.out.trans (hb3.mono (fun y _ hy => by unfold tg; omega))
  have HBk := hid (Back_any x G M ad n c zs w3 (by omega) hLe3 ((HR.out.nxt u3).mono (fun y _ hy => by
    rcases hy with rfl | rfl
    · exact .inl (by unfold tg; omega)
    · rcases hGt with h | h
      · exact .inl (by unfold tg; omega)
      · exact .inr h.1)))
  have Hu3 := hid u3
  have HK3 := hid hK3.cut
  have Hb3 := hid hb3
  clear hLe3 u3 hK3 hb3 q1 HW3 hGt hGl
  generalize hC : writeC off fu nb at_ n = C at *
  go_wp2_with fail
  refine Calls.mono HBk.out ?_
  rintro e w4 ⟨rfl, hS4, hb4⟩
  have HS4 := hid hS4
  have Hb4 := hid hb4
  clear hS4 hb4 HBk
  go_wp2_with fail
  refine (num_any C w4).mono ?_
  rintro e w5 ⟨rfl, e5⟩
  have e6 := e5.symm
  subst e6
  clear e5
  go_wp2
  go_ret
  obtain ⟨g1, g2, g3, g4, g5⟩ := Hh.out
  obtain ⟨hGt, hGl⟩ := HGt.out
  obtain ⟨z1, z2⟩ := Hsz.out
  have z3 := Hb3.out.size
  have z4 := Hb4.out.size
  have lo : ∀ y, y < w.heap.size → wrK κ t w.heap.size G w1.heap.size w2.heap.size y = κ y := fun y hy => if_pos hy
  have cz : ∀ y, w.heap.size ≤ y → cutK κ w.heap.size y = 0 := fun y hy => cutK_hi κ hy
  have hD3 := HD2.out.but Hb3.out (fun y hy hx => by have := cz y; omega)
  have hD4 := hD3.but Hb4.out (fun y hy hx => by subst hx; omega)
  have hK4 := HK3.out.but Hb4.out (fun y hy hx => by subst hx; omega)
  refine ⟨rfl, wrK κ t w.heap.size G w1.heap.size w2.heap.size, ⟨_, _, _, _, HS4.out, fun y hy => ?_, g3.keep (fun g e hg => ?_), fun g e => ?_, .inr ⟨p, r, img, _, _, _, nb, rfl, rfl, hD4.mono (fun y hy => ?_), hK4.mono (fun y hy => ?_), ?_⟩⟩, lo, ?_⟩
  · rcases hy with hy | hy
    · subst hy
      rw [lo y hxl]; exact g2 y (.inl rfl)
    · have e : y = G := by cases hy; rfl
      subst e
      unfold wrK
      by_cases hl : y < w.heap.size
      · rw [if_pos hl]; rw [cutK_lo κ hl] at hGt; omega
      · rw [if_neg hl, if_pos rfl]
  · have t4 := g4 g e
    rw [Hb4.out.block g (by omega) (fun h => by subst h; rw [cutK_lo κ hg] at hGt; omega), Hb3.out.block g (by omega) (by rw [cutK_lo κ hg]; omega)]
    exact Hkv.out g t4 hg
  · rcases g3 with g3 | ⟨g', M', ys, a1, a2, _⟩
    · rw [g3] at e; cases e
    · have e2 : g = g' := by rw [a1] at e; cases e; rfl
      subst e2
      rw [lo g a2.lt]; exact g4 g e
  · unfold wrK
    rcases hy.1 with h | h
    · have hl : y < w.heap.size := Classical.byContradiction (fun hl => by rw [cutK_hi κ (by omega)] at h; omega)
      rw [if_pos hl]; rw [cutK_lo κ hl] at h; exact h
    · rw [if_neg (by omega), if_neg (by omega), if_pos ⟨h, hy.2⟩]
  · unfold wrK
    rcases hy.1 with h | h
    · have hl : y < w.heap.size := Classical.byContradiction (fun hl => by rw [cutK_hi κ (by omega)] at h; omega)
      rw [if_pos hl]; rw [cutK_lo κ hl] at h; exact h
    · rw [if_neg (by omega), if_neg (by omega), if_neg (by omega), if_pos h]
  · split
    · simp; omega
    · omega
  · exact (Hu3.out.comp Hb4.out (fun y hy hx => by subst hx; rw [cutK_lo κ hy] at hGt ⊢; unfold tg; omega)).mono (fun y hy h => by rw [cutK_lo κ hy] at h; exact h)

end Go.Proofs.Yteokekllbpkemaa
