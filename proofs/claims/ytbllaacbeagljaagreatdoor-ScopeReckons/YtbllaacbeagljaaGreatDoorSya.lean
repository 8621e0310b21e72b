/-
  syntax: mayBe and Valid, of any tree.
-/
import Derived.Test.YtbllaacbeagljaaGreatDoorSy9
namespace Go.Proofs.YtbllaacbeagljaaGreatDoor
open Go.RowKit

theorem mayBe_all : ∀ f, f ≤ 64 → MbS f
  | 0, _ => fun lb d r wi t _ a l c w hL _ _ _ _ _ => mayBe_deep lb d r (65 - ((0 : Nat) : Int)) wi t a l c w hL (by omega)
  | f + 1, h => mayBe_step f (by omega) (mayBe_all f (by omega))
/-- what Valid answers -/
def valZ (t : Nd) : Int := if (mbN 64 1 false t).1 = true then (if (mbN 64 1 false t).2 = true then 192 else 0) else 193
set_option maxRecDepth 100000 in
set_option maxHeartbeats 4000000 in
theorem Valid_any (t : Nd) (D : Nat) (a : Option Addr) (l c : Nat) (w : World) (hG : GA w) (hK : KR (fun _ => False) w D a l t.kids) (hB : Pl.isB t.tx) (hl : t.tx.length ≤ 16777216) :
    Calls Tryz.prog 52 #[.agg (ncs t.k (strOfNums t.tx) t.n t.at_ a l c)] w fun e w' => e = .returned (.int .i64 (valZ t)) ∧ Below w.heap.size w w' := by
  obtain ⟨W, hW⟩ : ∃ W, W = (w.alloc (.cells (ncs t.k (strOfNums t.tx) t.n t.at_ a l c) 25)).alloc (.cells #[.bool false] 140) := ⟨_, rfl⟩
  have bl : Below w.heap.size w W := by rw [hW]; exact below2 _ _ _
  have hL : Cs W (w.heap.size + 1) 140 #[.bool false] := by rw [hW]; simpa using Cs.new (w.alloc (.cells (ncs t.k (strOfNums t.tx) t.n t.at_ a l c) 25)) 140 #[.bool false]
  have hK1 : KR (fun x => x = w.heap.size + 1) w D a l t.kids := hK.mono (fun g hg e => by omega)
  have H71 := hid (mayBe_all 64 (by omega) (w.heap.size + 1) false 1 false t D a l c W hL (by omega) (hG.next bl) (hK1.next bl) hB hl)
  have e64 : (65 : Int) - ((64 : Nat) : Int) = 1 := rfl
  rw [e64] at H71
  have HW := hid hW
  have HB := hid bl
  unfold valZ
  obtain ⟨R, hR⟩ : ∃ R, R = mbN 64 1 false t := ⟨_, rfl⟩
  rw [← hR] at H71 ⊢
  obtain ⟨b, hb⟩ : ∃ b, b = w.heap.size := ⟨_, rfl⟩
  rw [← hb] at H71
  have Hb := hid hb
  clear hR hW bl hL hK1 hG hK hB hl e64 hb
  obtain ⟨k, tx, n, at_, ks⟩ := t
  simp only at *
  generalize strOfNums tx = S at *
  go_enter Tryz.func52, Tryz.ntmps52
  go_wp2_with fail
  rw [← HW.out, ← Hb.out]
  refine Calls.mono H71.out ?_
  rintro e w2 ⟨rfl, ⟨d', hd, hq⟩, hbut⟩
  have c0 := hd.cell 0 _ rfl
  have HF := hid (HB.out.trans (hbut.below HB.out.size (fun x hx e => by have := Hb.out; omega)))
  obtain ⟨R1, R2⟩ := R
  simp only at *
  cases R1 with
  | false =>
    clear hd hq hbut
    go_wp2_with fail
    go_ret
    exact ⟨rfl, HF.out⟩
  | true =>
    obtain rfl : d' = R2 := by simpa using hq rfl
    clear hd hq hbut
    cases d' <;>
    · go_wp2_with fail
      go_ret
      exact ⟨rfl, HF.out⟩

end Go.Proofs.YtbllaacbeagljaaGreatDoor
