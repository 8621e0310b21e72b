/-
  scope: lookAt, at the plan of one let of a number of numbers.
-/
import Derived.Test.YtbllaacbeagljaaGreatDoorSb2
namespace Go.Proofs.YtbllaacbeagljaaGreatDoor
open Go.RowKit Go.Maps

set_option maxRecDepth 100000 in
set_option maxHeartbeats 4000000 in
theorem block_let (d : Nat) {mb m : Nat} {F : ByteArray → Option Int} (t : Nd) (D : Nat) (a : Option Addr) (l c : Nat) (w : World) (hL : LetN d t) (hK : KR (fun x => x = mb) w D a l [t]) (hM : MpB w mb m F) (hF : F (strOfNums t.tx) = none) (hm : m < 1073741824) :
    Calls Tryz.prog 72 #[.agg #[.map (some mb)], .slice a l c] w fun e w' => e = .returned (.tuple #[]) ∧ But (fun x => x = mb) w w' := by
  obtain rfl := hK.len.1
  obtain ⟨W, hW⟩ : ∃ W, W = w.alloc (.cells #[.map (some mb)] 103) := ⟨_, rfl⟩
  obtain ⟨b, hb⟩ : ∃ b, b = w.heap.size := ⟨_, rfl⟩
  have hbl : Below w.heap.size w W := by rw [hW]; exact below1 _ _
  have hC : Cs W b 103 #[.map (some mb)] := by rw [hW, hb]; exact Cs.new _ _ _
  have hmb : ¬ b = mb := by have := hM.lt; omega
  have hs : (strOfNums t.tx).size ≤ maxLen := by rw [str_size]; unfold maxLen; have := hL.tx; omega
  have H73 := hid (nodes_let d t D a 1 c W hL (hK.next hbl) (hM.next hbl) hF hm)
  have hk2 := hL.k
  have HW := hid hW
  have Hb := hid hb
  have HB := hid hbl
  have HC := hid hC
  have HK := hid hK
  have Hs := hid hs
  clear hW hb hbl hC hK hM hL hF hs
  obtain ⟨tk, ttx, tn, tat, tks⟩ := t
  simp only [List.length_cons, List.length_nil, Nat.zero_add] at *
  subst hk2
  go_enter Tryz.func72, Tryz.ntmps72
  go_wp2_with fail
  rw [← HW.out, ← Hb.out]
  refine Calls.mono H73.out ?_
  rintro e w2 ⟨rfl, hM2, hb2⟩
  have HC2 := hid (HC.out.but hb2 hmb)
  have HB2 := hid ((But.of_below HB.out).trans hb2)
  have HM2 := hid hM2
  clear hb2 hM2 H73 HB HC
  go_wp2_with fail
  go_loopw [11] (fun iv wr => (iv = .int .i64 0 ∧ MpB wr mb (m + 1) (upF F (strOfNums ttx) (some 0)) ∨ iv = .int .i64 1) ∧ Cs wr b 103 #[.map (some mb)] ∧ But (fun x => x = mb) w wr) (fun iv _ => 1 - (intOf iv).toNat)
  case atStart => exact ⟨.inl ⟨rfl, HM2.out⟩, HC2.out, HB2.out⟩
  case round =>
    obtain ⟨hiv, hCs, hBe⟩ := hrel
    clear HC2 HB2 HM2
    rcases hiv with ⟨rfl, hM⟩ | rfl
    · have hKw := HK.out.but hBe
      cases D with
      | zero => have := hKw.1; omega
      | succ D =>
        obtain ⟨-, -, hrow⟩ := hKw
        obtain ⟨g, o, a', l', c', rfl, -, hgl, ⟨m0, m1, m2, m3, m4⟩, -, hKk⟩ := hrow 0 (by simp)
        replace m0 : wr.cell? ⟨g, o, none⟩ = some (.int .i64 2) := m0
        replace m1 : wr.cell? ⟨g, o + 1, none⟩ = some (.string (strOfNums ttx)) := m1
        replace m2 : wr.cell? ⟨g, o + 2, none⟩ = some (.int .i64 tn) := m2
        replace m3 : wr.cell? ⟨g, o + 3, none⟩ = some (.int .i64 tat) := m3
        replace m4 : wr.cell? ⟨g, o + 4, none⟩ = some (.slice a' l' c') := m4
        obtain ⟨W9, hW9⟩ : ∃ W9, W9 = wr.alloc (.cells (ncs 2 (strOfNums ttx) tn tat a' l' c') 25) := ⟨_, rfl⟩
        have bl9 : Below wr.heap.size wr W9 := by rw [hW9]; exact below1 _ _
        have hbe9 := hBe.trans (But.of_below bl9)
        obtain ⟨w3, hrun, hM3, hbut3⟩ := (hM.next bl9).del under69 (strOfNums ttx) Hs.out 0
        have HC3 := hid ((hCs.next bl9).but hbut3 hmb)
        have HB3 := hid (hbe9.trans hbut3)
        rw [hW9] at hrun
        have c0 := hCs.cell 0 _ rfl
        have hlt := hCs.lt
        clear hrow hCs hBe bl9 hbe9 hW9 hKk hM HK hM3 hbut3
        generalize strOfNums ttx = Sk at *
        go_wp2_with fail
        exact ⟨⟨.inr rfl, HC3.out, HB3.out⟩, by simp [intOf]⟩
    · have HB2 := hid hBe
      clear hCs hBe
      go_wp2_with fail
      go_end0
      exact ⟨rfl, HB2.out⟩
/-- a plan of one let of a number of numbers -/
structure PlanN (d : Nat) (p t : Nd) : Prop where
  k : p.k = 1
  kids : p.kids = [t]
  let_ : LetN d t
  ptx : Pl.isB p.tx ∧ p.tx.length ≤ 16777216
set_option maxRecDepth 100000 in
set_option maxHeartbeats 4000000 in
theorem node_plan (d : Nat) {mb m : Nat} {F : ByteArray → Option Int} (p t : Nd) (D : Nat) (a : Option Addr) (l c : Nat) (w : World) (hP : PlanN d p t) (hK : KR (fun x => x = mb) w D a l p.kids) (hM : MpB w mb m F) (hF : F (strOfNums t.tx) = none) (hm : m < 1073741824) :
    Calls Tryz.prog 53 #[.agg #[.map (some mb)], .agg (ncs p.k (strOfNums p.tx) p.n p.at_ a l c)] w fun e w' => e = .returned (.tuple #[]) ∧ But (fun x => x = mb) w w' := by
  obtain ⟨W, hW⟩ : ∃ W, W = (w.alloc (.cells #[.map (some mb)] 103)).alloc (.cells (ncs p.k (strOfNums p.tx) p.n p.at_ a l c) 25) := ⟨_, rfl⟩
  have hbl : Below w.heap.size w W := by rw [hW]; exact below2 _ _ _
  rw [hP.kids] at hK
  have H72 := hid (block_let d t D a l c W hP.let_ (hK.next hbl) (hM.next hbl) hF hm)
  have hk := hP.k
  have HW := hid hW
  have HB := hid hbl
  clear hW hbl hK hP hM hF hm
  obtain ⟨k, tx, n, at_, ks⟩ := p
  simp only at *
  subst hk
  generalize strOfNums tx = S at *
  go_enter Tryz.func53, Tryz.ntmps53
  go_wp2_with fail
  rw [← HW.out]
  refine Calls.mono H72.out ?_
  rintro e w2 ⟨rfl, hb2⟩
  have HB2 := hid ((But.of_below HB.out).trans hb2)
  clear hb2
  go_wp2_with fail
  go_end0
  exact ⟨rfl, HB2.out⟩
set_option maxRecDepth 100000 in
set_option maxHeartbeats 4000000 in
theorem lookAt_plan (d : Nat) (p t : Nd) (D : Nat) (a : Option Addr) (l c : Nat) (w : World) (hP : PlanN d p t) (hV : valZ p = 0) (hG : GA w) (hK : KR (fun _ => False) w D a l p.kids) :
    Calls Tryz.prog 33 #[.agg (ncs p.k (strOfNums p.tx) p.n p.at_ a l c)] w fun e w' => e = .returned (.tuple #[]) ∧ Below w.heap.size w w' := by
  obtain ⟨W, hW⟩ : ∃ W, W = w.alloc (.cells (ncs p.k (strOfNums p.tx) p.n p.at_ a l c) 25) := ⟨_, rfl⟩
  obtain ⟨b, hb⟩ : ∃ b, b = w.heap.size := ⟨_, rfl⟩
  have hbl : Below w.heap.size w W := by rw [hW]; exact below1 _ _
  have hC : Cs W b 25 (ncs p.k (strOfNums p.tx) p.n p.at_ a l c) := by rw [hW, hb]; exact Cs.new _ _ _
  have H52 := hid (Valid_any p D a l c W (hG.next hbl) (hK.next hbl) hP.ptx.1 hP.ptx.2)
  rw [hV] at H52
  have hmm := @run_makeMap Tryz.prog
  have HN := hid (fun (w2 : World) (h : Below w.heap.size w w2) (mb : Nat) (hmb : w.heap.size ≤ mb) (hM : MpB w2 mb 0 (fun _ => none)) => node_plan d p t D a l c w2 hP ((hK.mono (X := fun _ => False) (Y := fun x => x = mb) (fun g hg e => by omega)).next h) hM rfl (by omega))
  have HW := hid hW
  have Hb := hid hb
  have HB := hid hbl
  have HC := hid hC
  clear hW hb hbl hC hK hP hV hG
  obtain ⟨k, tx, n, at_, ks⟩ := p
  simp only at *
  generalize strOfNums tx = S at *
  go_enter Tryz.func33, Tryz.ntmps33
  go_wp2_with fail
  rw [← HW.out, ← Hb.out]
  refine Calls.mono H52.out ?_
  rintro e w2 ⟨rfl, hb2⟩
  have hC2 := HC.out.next hb2
  obtain ⟨d0, d1, d2, d3, d4⟩ := hC2.five
  have hlt := hC2.lt
  have hb02 := HB.out.trans (hb2.mono HB.out.size)
  obtain ⟨W3, hW3⟩ : ∃ W3, W3 = (w2.alloc (.map #[] 0)).alloc (.cells #[.map (some w2.heap.size)] 103) := ⟨_, rfl⟩
  have bl3 : Below w2.heap.size w2 W3 := by rw [hW3]; exact below2 _ _ _
  have hM3 : MpB W3 w2.heap.size 0 (fun _ => none) := by rw [hW3]; exact (MpB.new w2).next (below1 _ _)
  have hb03 := hb02.trans (bl3.mono hb02.size)
  have H53 := hid (HN.out W3 hb03 w2.heap.size hb02.size hM3)
  have HB3 := hid hb03
  have HS2 := hid hb02.size
  have HW3 := hid hW3
  clear hC2 hb2 hb02 bl3 hM3 hb03 hW3 HN H52
  go_wp2_with fail
  rw [← HW3.out]
  refine Calls.mono H53.out ?_
  rintro e w4 ⟨rfl, hb4⟩
  have HF := hid (HB3.out.trans (hb4.below HB3.out.size (fun x hx e => by have := HS2.out; omega)))
  clear hb4
  go_wp2_with fail
  go_end0
  exact ⟨rfl, HF.out⟩

end Go.Proofs.YtbllaacbeagljaaGreatDoor
