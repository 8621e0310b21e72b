/-
  scope: the look, at the plan of one let.
-/
import Derived.Test.YtbllaacbeagljaaGreatDoorSb1
namespace Go.Proofs.YtbllaacbeagljaaGreatDoor
open Go.RowKit Go.Maps

theorem upF_same (F : ByteArray → Option Int) (s : ByteArray) (v : Option Int) : upF F s v s = v := if_pos rfl
set_option maxRecDepth 100000 in
set_option maxHeartbeats 4000000 in
theorem bind_new {mb m : Nat} {F : ByteArray → Option Int} (k n at_ : Int) (S : ByteArray) (a : Option Addr) (l c : Nat) (w : World) (hM : MpB w mb m F) (hF : F S = none) (hs : S.size ≤ maxLen) (hm : m < 1073741824) :
    Calls Tryz.prog 74 #[.agg #[.map (some mb)], .agg (ncs k S n at_ a l c)] w fun e w' => e = .returned (.tuple #[]) ∧ MpB w' mb (m + 1) (upF F S (some 0)) ∧ But (fun x => x = mb) w w' := by
  obtain ⟨W, hW⟩ : ∃ W, W = (w.alloc (.cells #[.map (some mb)] 103)).alloc (.cells (ncs k S n at_ a l c) 25) := ⟨_, rfl⟩
  obtain ⟨b, hb⟩ : ∃ b, b = w.heap.size := ⟨_, rfl⟩
  have hbl : Below w.heap.size w W := by rw [hW]; exact below2 _ _ _
  have hMW := hM.next hbl
  have hC1 : Cs W b 103 #[.map (some mb)] := by rw [hW, hb]; exact heap2 _ _ _
  have hC2 : Cs W (b + 1) 25 (ncs k S n at_ a l c) := by rw [hW, hb]; simpa using Cs.new (w.alloc (.cells #[.map (some mb)] 103)) 25 (ncs k S n at_ a l c)
  have H76 := hid (has_any hMW S hs)
  rw [hF] at H76
  obtain ⟨w', hrun, hM', hbut⟩ := hMW.put under69 S hs 0 rfl hm
  have HF := hid (And.intro hM' ((But.of_below hbl).trans hbut))
  have HW := hid hW
  have Hb := hid hb
  have c0 := hC1.cell 0 _ rfl
  obtain ⟨d0, d1, d2, d3, d4⟩ := hC2.five
  clear hW hb hbl hMW hC1 hC2 hM hF hs hM' hbut
  go_enter Tryz.func74, Tryz.ntmps74
  go_wp2_with fail
  rw [← HW.out, ← Hb.out]
  refine Calls.mono H76.out ?_
  rintro e w2 ⟨rfl, rfl⟩
  go_wp2_with fail
  go_end0
  exact ⟨rfl, HF.out⟩
/-- a let whose number is one of numbers -/
structure LetN (d : Nat) (t : Nd) : Prop where
  k : t.k = 2
  ar : ∀ i (hi : i < t.kids.length), ArN d t.kids[i]
  tx : t.tx.length ≤ 16777216
set_option maxRecDepth 100000 in
set_option maxHeartbeats 4000000 in
theorem node_let (d : Nat) {mb m : Nat} {F : ByteArray → Option Int} (t : Nd) (D : Nat) (a : Option Addr) (l c : Nat) (w : World) (hL : LetN d t) (hK : KR (fun _ => False) w D a l t.kids) (hM : MpB w mb m F) (hF : F (strOfNums t.tx) = none) (hm : m < 1073741824) :
    Calls Tryz.prog 53 #[.agg #[.map (some mb)], .agg (ncs t.k (strOfNums t.tx) t.n t.at_ a l c)] w fun e w' => e = .returned (.tuple #[]) ∧ MpB w' mb (m + 1) (upF F (strOfNums t.tx) (some 0)) ∧ But (fun x => x = mb) w w' := by
  obtain ⟨W, hW⟩ : ∃ W, W = (w.alloc (.cells #[.map (some mb)] 103)).alloc (.cells (ncs t.k (strOfNums t.tx) t.n t.at_ a l c) 25) := ⟨_, rfl⟩
  obtain ⟨b, hb⟩ : ∃ b, b = w.heap.size := ⟨_, rfl⟩
  have hbl : Below w.heap.size w W := by rw [hW]; exact below2 _ _ _
  have hC1 : Cs W b 103 #[.map (some mb)] := by rw [hW, hb]; exact heap2 _ _ _
  have hC2 : Cs W (b + 1) 25 (ncs t.k (strOfNums t.tx) t.n t.at_ a l c) := by rw [hW, hb]; simpa using Cs.new (w.alloc (.cells #[.map (some mb)] 103)) 25 (ncs t.k (strOfNums t.tx) t.n t.at_ a l c)
  have H73 := hid (nodes_ar d (look_ar d) mb t.kids D a l c W hL.ar (hK.next hbl))
  have hs : (strOfNums t.tx).size ≤ maxLen := by rw [str_size]; unfold maxLen; have := hL.tx; omega
  have hk := hL.k
  have HW := hid hW
  have Hb := hid hb
  have HB := hid hbl
  have HM := hid (hM.next hbl)
  have HC1 := hid hC1
  have HC2 := hid hC2
  have HFm := hid hF
  have Hs := hid hs
  clear hW hb hbl hC1 hC2 hM hL hK hF hs
  obtain ⟨k, tx, n, at_, ks⟩ := t
  simp only at *
  subst hk
  generalize strOfNums tx = S at *
  go_enter Tryz.func53, Tryz.ntmps53
  go_wp2_with fail
  rw [← HW.out, ← Hb.out]
  refine Calls.mono H73.out ?_
  rintro e w2 ⟨rfl, hb2⟩
  have c0 := (HC1.out.next hb2).cell 0 _ rfl
  obtain ⟨d0, d1, d2, d3, d4⟩ := (HC2.out.next hb2).five
  have H74 := hid (bind_new 2 n at_ S a l c w2 (HM.out.next hb2) HFm.out Hs.out hm)
  have HB2 := hid (HB.out.trans (hb2.mono HB.out.size))
  clear hb2
  go_wp2_with fail
  refine Calls.mono H74.out ?_
  rintro e w3 ⟨rfl, hM3, hb3⟩
  have HF := hid (And.intro hM3 ((But.of_below HB2.out).trans hb3))
  clear hM3 hb3
  go_wp2_with fail
  go_end0
  exact ⟨rfl, HF.out⟩

set_option maxRecDepth 100000 in
set_option maxHeartbeats 4000000 in
theorem nodes_let (d : Nat) {mb m : Nat} {F : ByteArray → Option Int} (t : Nd) (D : Nat) (a : Option Addr) (l c : Nat) (w : World) (hL : LetN d t) (hK : KR (fun x => x = mb) w D a l [t]) (hM : MpB w mb m F) (hF : F (strOfNums t.tx) = none) (hm : m < 1073741824) :
    Calls Tryz.prog 73 #[.agg #[.map (some mb)], .slice a l c] w fun e w' => e = .returned (.tuple #[]) ∧ MpB w' mb (m + 1) (upF F (strOfNums t.tx) (some 0)) ∧ But (fun x => x = mb) w w' := by
  obtain rfl := hK.len.1
  obtain ⟨W, hW⟩ : ∃ W, W = w.alloc (.cells #[.map (some mb)] 103) := ⟨_, rfl⟩
  obtain ⟨b, hb⟩ : ∃ b, b = w.heap.size := ⟨_, rfl⟩
  have hbl : Below w.heap.size w W := by rw [hW]; exact below1 _ _
  have hC : Cs W b 103 #[.map (some mb)] := by rw [hW, hb]; exact Cs.new _ _ _
  have hmb : ¬ b = mb := by have := hM.lt; omega
  have HM := hid (hM.next hbl)
  have HW := hid hW
  have Hb := hid hb
  have HB := hid hbl
  have HC := hid hC
  have HK := hid hK
  have HL := hid hL
  have HFm := hid hF
  simp only [List.length_cons, List.length_nil, Nat.zero_add] at *
  clear hW hb hbl hC hK hM hL hF
  obtain ⟨tk, ttx, tn, tat, tks⟩ := t
  simp only at *
  go_enter Tryz.func73, Tryz.ntmps73
  go_wp2_with fail
  rw [← HW.out, ← Hb.out]
  go_loopw [8] (fun iv wr => (iv = .int .i64 0 ∧ MpB wr mb m F ∨ iv = .int .i64 1 ∧ MpB wr mb (m + 1) (upF F (strOfNums ttx) (some 0))) ∧ Cs wr b 103 #[.map (some mb)] ∧ But (fun x => x = mb) w wr) (fun iv _ => 1 - (intOf iv).toNat)
  case atStart => exact ⟨.inl ⟨rfl, HM.out⟩, HC.out, But.of_below HB.out⟩
  case round =>
    obtain ⟨hiv, hCs, hBe⟩ := hrel
    clear HC HB HM
    rcases hiv with ⟨rfl, hM⟩ | ⟨rfl, hM⟩
    · have hKw := HK.out.but hBe
      cases D with
      | zero => have := hKw.1; omega
      | succ D =>
        obtain ⟨-, -, hrow⟩ := hKw
        obtain ⟨g, o, a', l', c', rfl, -, hgl, ⟨m0, m1, m2, m3, m4⟩, -, hKk⟩ := hrow 0 (by simp)
        replace hKk : KR (fun x => x = mb) wr D a' l' tks := hKk
        replace m0 : wr.cell? ⟨g, o, none⟩ = some (.int .i64 tk) := m0
        replace m1 : wr.cell? ⟨g, o + 1, none⟩ = some (.string (strOfNums ttx)) := m1
        replace m2 : wr.cell? ⟨g, o + 2, none⟩ = some (.int .i64 tn) := m2
        replace m3 : wr.cell? ⟨g, o + 3, none⟩ = some (.int .i64 tat) := m3
        replace m4 : wr.cell? ⟨g, o + 4, none⟩ = some (.slice a' l' c') := m4
        obtain ⟨W9, hW9⟩ : ∃ W9, W9 = wr.alloc (.cells (ncs tk (strOfNums ttx) tn tat a' l' c') 25) := ⟨_, rfl⟩
        have bl9 : Below wr.heap.size wr W9 := by rw [hW9]; exact below1 _ _
        have hbe9 := hBe.trans (But.of_below bl9)
        have H53 := hid (node_let d ⟨tk, ttx, tn, tat, tks⟩ D a' l' c' W9 HL.out ((hKk.next bl9).mono (fun _ _ h => h.elim)) (hM.next bl9) HFm.out hm)
        have HC9 := hid (hCs.next bl9)
        have HB9 := hid hbe9
        have HW9 := hid hW9
        have c0 := hCs.cell 0 _ rfl
        have hlt := hCs.lt
        clear hrow hCs hBe bl9 hbe9 hW9 hKk hM HK HL
        generalize strOfNums ttx = Sk at *
        go_wp2_with fail
        rw [← HW9.out]
        refine Calls.mono H53.out ?_
        rintro e w2 ⟨rfl, hM2, hb2⟩
        have HC2 := hid (HC9.out.but hb2 hmb)
        have HB2 := hid (HB9.out.trans hb2)
        have HM2 := hid hM2
        clear hb2 hM2
        go_wp2_with fail
        exact ⟨⟨.inr ⟨rfl, HM2.out⟩, HC2.out, HB2.out⟩, by simp [intOf]⟩
    · have HB2 := hid (And.intro hM hBe)
      clear hCs hBe hM
      go_wp2_with fail
      go_end0
      exact ⟨rfl, HB2.out⟩

end Go.Proofs.YtbllaacbeagljaaGreatDoor
