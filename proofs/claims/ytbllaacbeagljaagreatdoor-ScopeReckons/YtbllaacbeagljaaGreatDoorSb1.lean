/-
  scope: the look, at a number made of numbers.
-/
import Derived.Test.YtbllaacbeagljaaGreatDoorSb0
namespace Go.Proofs.YtbllaacbeagljaaGreatDoor
open Go.RowKit Go.Maps

/-- a number made of numbers alone -/
def ArN : Nat → Nd → Prop
  | 0, _ => False
  | d + 1, t => (t.k = 20 ∨ 22 ≤ t.k ∧ t.k ≤ 28) ∧ ∀ i (hi : i < t.kids.length), ArN d t.kids[i]
/-- the look goes by -/
def LkS (d : Nat) : Prop := ∀ (mb : Nat) (t : Nd) (D : Nat) (a : Option Addr) (l c : Nat) (w : World), ArN d t → KR (fun _ => False) w D a l t.kids →
  Calls Tryz.prog 53 #[.agg #[.map (some mb)], .agg (ncs t.k (strOfNums t.tx) t.n t.at_ a l c)] w fun e w' => e = .returned (.tuple #[]) ∧ Below w.heap.size w w'
set_option maxRecDepth 100000 in
set_option maxHeartbeats 4000000 in
theorem nodes_ar (d : Nat) (ih : LkS d) (mb : Nat) (ks : List Nd) (D : Nat) (a : Option Addr) (l c : Nat) (w : World) (hA : ∀ i (hi : i < ks.length), ArN d ks[i]) (hK : KR (fun _ => False) w D a l ks) :
    Calls Tryz.prog 73 #[.agg #[.map (some mb)], .slice a l c] w fun e w' => e = .returned (.tuple #[]) ∧ Below w.heap.size w w' := by
  obtain ⟨rfl, hlm⟩ := hK.len
  obtain ⟨W, hW⟩ : ∃ W, W = w.alloc (.cells #[.map (some mb)] 103) := ⟨_, rfl⟩
  obtain ⟨b, hb⟩ : ∃ b, b = w.heap.size := ⟨_, rfl⟩
  have hbl : Below w.heap.size w W := by rw [hW]; exact below1 _ _
  have hC : Cs W b 103 #[.map (some mb)] := by rw [hW, hb]; exact Cs.new _ _ _
  have HW := hid hW
  have Hb := hid hb
  have HB := hid hbl
  have HC := hid hC
  have HK := hid hK
  have HI := hid ih
  have HA := hid hA
  clear hW hb hbl hC hK ih hA
  go_enter Tryz.func73, Tryz.ntmps73
  go_wp2_with fail
  rw [← HW.out, ← Hb.out]
  go_loopw [8] (fun iv wr => ∃ i : Nat, iv = .int .i64 (i : Int) ∧ i ≤ ks.length ∧ Cs wr b 103 #[.map (some mb)] ∧ Below w.heap.size w wr) (fun iv _ => ks.length - (intOf iv).toNat)
  case atStart => exact ⟨0, rfl, Nat.zero_le _, HC.out, HB.out⟩
  case round =>
    obtain ⟨i, rfl, hi, hCs, hBe⟩ := hrel
    clear HC HB
    by_cases hin : i < ks.length
    · have hin' : (i : Int) < (ks.length : Int) := by omega
      have hKw := HK.out.next hBe
      cases D with
      | zero => have := hKw.1; omega
      | succ D =>
        obtain ⟨_, _, hrow⟩ := hKw
        obtain ⟨g, o, a', l', c', rfl, _, hgl, ⟨m0, m1, m2, m3, m4⟩, _, hKk⟩ := hrow i hin
        obtain ⟨W9, hW9⟩ : ∃ W9, W9 = wr.alloc (.cells (ncs ks[i].k (strOfNums ks[i].tx) ks[i].n ks[i].at_ a' l' c') 25) := ⟨_, rfl⟩
        have bl9 : Below wr.heap.size wr W9 := by rw [hW9]; exact below1 _ _
        have hbe9 := hBe.trans (bl9.mono hBe.size)
        have H53 := hid (HI.out mb ks[i] D a' l' c' W9 (HA.out i hin) (hKk.next bl9))
        have HC9 := hid (hCs.next bl9)
        have HB9 := hid hbe9
        have HW9 := hid hW9
        have c0 := hCs.cell 0 _ rfl
        have hlt := hCs.lt
        generalize strOfNums ks[i].tx = Sk at *
        generalize ks[i].k = kk at *
        generalize ks[i].n = kn at *
        generalize ks[i].at_ = ka at *
        clear hrow hCs hBe bl9 hbe9 hW9 hKk
        go_wp2_with fail
        rw [← HW9.out]
        refine Calls.mono H53.out ?_
        rintro e w2 ⟨rfl, hb2⟩
        have HC2 := hid (HC9.out.next hb2)
        have HB2 := hid (HB9.out.trans (hb2.mono HB9.out.size))
        clear hb2
        go_wp2_with fail
        exact ⟨⟨i + 1, by go_num, by omega, HC2.out, HB2.out⟩, by simp [intOf]; omega⟩
    · have hin' : ¬ (i : Int) < (ks.length : Int) := by omega
      have HB2 := hid hBe
      clear hCs hBe
      go_wp2_with fail
      go_end0
      exact ⟨rfl, HB2.out⟩
set_option maxRecDepth 100000 in
set_option maxHeartbeats 4000000 in
theorem node_ar (d : Nat) (ih : LkS d) : LkS (d + 1) := by
  intro mb t D a l c w hA hK
  obtain ⟨W, hW⟩ : ∃ W, W = (w.alloc (.cells #[.map (some mb)] 103)).alloc (.cells (ncs t.k (strOfNums t.tx) t.n t.at_ a l c) 25) := ⟨_, rfl⟩
  have hbl : Below w.heap.size w W := by rw [hW]; exact below2 _ _ _
  have H73 := hid (nodes_ar d ih mb t.kids D a l c W hA.2 (hK.next hbl))
  have hk := hA.1
  have HW := hid hW
  have HB := hid hbl
  clear hW hbl hA hK ih
  obtain ⟨k, tx, n, at_, ks⟩ := t
  simp only at *
  have q1 : (k == 1) = false := by simp; omega
  have q11 : (k == 11) = false := by simp; omega
  have q2 : (k == 2) = false := by simp; omega
  have q9 : (k == 9) = false := by simp; omega
  have q21 : (k == 21) = false := by simp; omega
  have q12 : (k == 12) = false := by simp; omega
  generalize strOfNums tx = S at *
  clear hk
  go_enter Tryz.func53, Tryz.ntmps53
  go_wp2_with fail
  rw [← HW.out]
  refine Calls.mono H73.out ?_
  rintro e w2 ⟨rfl, hb2⟩
  have HB2 := hid (HB.out.trans (hb2.mono HB.out.size))
  clear hb2
  go_wp2_with fail
  go_end0
  exact ⟨rfl, HB2.out⟩
theorem look_ar : ∀ d, LkS d
  | 0 => fun _ _ _ _ _ _ _ h _ => h.elim
  | d + 1 => node_ar d (look_ar d)

end Go.Proofs.YtbllaacbeagljaaGreatDoor
