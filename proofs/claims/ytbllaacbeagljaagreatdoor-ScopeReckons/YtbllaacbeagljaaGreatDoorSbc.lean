/-
  scope: planOf, reckonerOf of an empty view.
-/
import Derived.Test.YtbllaacbeagljaaGreatDoorSbb
namespace Go.Proofs.YtbllaacbeagljaaGreatDoor
open Go.RowKit Go.Maps

/-- the let of a number, the plan of that let -/
def letT (t : Nd) : Nd := ⟨2, [120], 0, 0, [t]⟩
def planT (t : Nd) : Nd := ⟨1, [], 0, t.at_, [letT t]⟩
theorem ofNums_x : strOfNums [120] = ⟨#[120]⟩ := rfl
theorem ofNums_0 : strOfNums [] = ⟨#[]⟩ := rfl
/-- a list of one node that lies in a block of its own -/
theorem KR.one {X : Nat → Prop} {w : World} {D g : Nat} {t : Nd} {a : Option Addr} {l c : Nat} (hg : Cs w g 25 (ncs t.k (strOfNums t.tx) t.n t.at_ a l c)) (hx : ¬ X g) (ht : Pl.isB t.tx ∧ t.tx.length ≤ 16777216) (hK : KR X w D a l t.kids) : KR X w (D + 1) (some ⟨g, 0, none⟩) 1 [t] := by
  refine ⟨rfl, by omega, fun i hi => ?_⟩
  obtain rfl : i = 0 := by simp at hi; omega
  obtain ⟨h0, h1, h2, h3, h4⟩ := hg.five
  exact ⟨g, 0, a, l, c, rfl, hx, hg.lt, ⟨h0, h1, h2, h3, h4⟩, ht, hK⟩
set_option maxRecDepth 100000 in
set_option maxHeartbeats 4000000 in
theorem planOf_any (t : Nd) (D : Nat) (a : Option Addr) (l c : Nat) (w : World) (ht : Pl.isB t.tx ∧ t.tx.length ≤ 16777216) (hK : KR (fun _ => False) w D a l t.kids) :
    Calls Tryz.prog 34 #[.agg (ncs t.k (strOfNums t.tx) t.n t.at_ a l c)] w fun e w' => (∃ g, e = .returned (.agg (ncs 1 (strOfNums []) 0 t.at_ (some ⟨g, 0, none⟩) 1 1)) ∧ KR (fun _ => False) w' (D + 2) (some ⟨g, 0, none⟩) 1 [letT t]) ∧ Below w.heap.size w w' := by
  go_enter Tryz.func34, Tryz.ntmps34
  go_wp2_with fail
  obtain ⟨A0, hA0⟩ : ∃ A0 : Obj, A0 = .cells (ncs t.k (strOfNums t.tx) t.n t.at_ a l c) 25 := ⟨_, rfl⟩
  obtain ⟨A1, hA1⟩ : ∃ A1 : Obj, A1 = .cells (ncs 1 (strOfNums []) 0 t.at_ (some ⟨w.heap.size + 1 + 1 + 1 + 1, 0, none⟩) 1 1) 25 := ⟨_, rfl⟩
  obtain ⟨A3, hA3⟩ : ∃ A3 : Obj, A3 = .cells (ncs 2 (strOfNums [120]) 0 0 (some ⟨w.heap.size + 1 + 1, 0, none⟩) 1 1) 25 := ⟨_, rfl⟩
  have k1 : Cs (((((w.alloc A0).alloc A1).alloc A0).alloc A3).alloc A3) (w.heap.size + 1) 25 (ncs 1 (strOfNums []) 0 t.at_ (some ⟨w.heap.size + 1 + 1 + 1 + 1, 0, none⟩) 1 1) := by
    have h := Cs.next (Cs.new (w.alloc A0) 25 (ncs 1 (strOfNums []) 0 t.at_ (some ⟨w.heap.size + 1 + 1 + 1 + 1, 0, none⟩) 1 1)) (below3 _ A0 A3 A3)
    rw [← hA1] at h
    simpa using h
  have k2 : Cs (((((w.alloc A0).alloc A1).alloc A0).alloc A3).alloc A3) (w.heap.size + 1 + 1) 25 (ncs t.k (strOfNums t.tx) t.n t.at_ a l c) := by
    have h := Cs.next (Cs.new ((w.alloc A0).alloc A1) 25 (ncs t.k (strOfNums t.tx) t.n t.at_ a l c)) (below2 _ A3 A3)
    rw [← hA0] at h
    simpa using h
  have k4 : Cs (((((w.alloc A0).alloc A1).alloc A0).alloc A3).alloc A3) (w.heap.size + 1 + 1 + 1 + 1) 25 (ncs 2 (strOfNums [120]) 0 0 (some ⟨w.heap.size + 1 + 1, 0, none⟩) 1 1) := by
    have h := Cs.new ((((w.alloc A0).alloc A1).alloc A0).alloc A3) 25 (ncs 2 (strOfNums [120]) 0 0 (some ⟨w.heap.size + 1 + 1, 0, none⟩) 1 1)
    rw [← hA3] at h
    simpa using h
  have hbl : Below w.heap.size w (((((w.alloc A0).alloc A1).alloc A0).alloc A3).alloc A3) := (below2 w A0 A1).trans ((below3 _ A0 A3 A3).mono (by simp; omega))
  have hKp : KR (fun _ => False) (((((w.alloc A0).alloc A1).alloc A0).alloc A3).alloc A3) (D + 2) (some ⟨w.heap.size + 1 + 1 + 1 + 1, 0, none⟩) 1 [letT t] :=
    KR.one (t := letT t) k4 (fun h => h) ⟨fun z hz => by simp [letT] at hz; omega, by simp [letT]⟩ (KR.one k2 (fun h => h) ht (hK.next hbl))
  subst hA0 hA1 hA3
  exact bodyPost_ret (results_cell_row rfl _ _ (w.heap.size + 1) 25 _ (0, 0) _ rfl k1 Tryz.underlying25 rfl (by kernel_rfl)) rfl ⟨⟨_, rfl, hKp⟩, hbl⟩
set_option maxRecDepth 100000 in
set_option maxHeartbeats 4000000 in
theorem reckonerOf_none (ca fr nx : Int) (c : Nat) (w : World) : Calls Tryz.prog 35 #[.agg #[.int .i64 ca, .int .i64 fr, .int .i64 nx, .slice none 0 c]] w fun e w' => (∃ m1 m2, e = .returned (.agg #[.int .i64 fr, .map (some m1), .map (some m2)])) ∧ Below w.heap.size w w' := by
  have hmm := @run_makeMap Tryz.prog
  go_enter Tryz.func35, Tryz.ntmps35
  go_wp2_with fail
  go_loopw [16] (fun iv wr => iv = .int .i64 0 ∧ Cs wr (w.heap.size + 1) 71 #[.int .i64 0, .map none, .map none] ∧ Cs wr (w.heap.size + 1 + 1 + 1 + 1) 71 #[.int .i64 fr, .map (some (w.heap.size + 1 + 1)), .map (some (w.heap.size + 1 + 1 + 1))] ∧ Below w.heap.size w wr) (fun _ _ => 0)
  case atStart =>
    obtain ⟨A0, hA0⟩ : ∃ A0 : Obj, A0 = .cells #[.int .i64 ca, .int .i64 fr, .int .i64 nx, .slice none 0 c] 32 := ⟨_, rfl⟩
    have k1 := Cs.next (Cs.new (w.alloc A0) 71 #[.int .i64 0, .map none, .map none]) (below3 _ (.map #[] 0) (.map #[] 0) (.cells #[.int .i64 fr, .map (some (w.heap.size + 1 + 1)), .map (some (w.heap.size + 1 + 1 + 1))] 71))
    have k2 := Cs.new ((((w.alloc A0).alloc (.cells #[.int .i64 0, .map none, .map none] 71)).alloc (.map #[] 0)).alloc (.map #[] 0)) 71 #[.int .i64 fr, .map (some (w.heap.size + 1 + 1)), .map (some (w.heap.size + 1 + 1 + 1))]
    have hbl : Below w.heap.size w (((((w.alloc A0).alloc (.cells #[.int .i64 0, .map none, .map none] 71)).alloc (.map #[] 0)).alloc (.map #[] 0)).alloc (.cells #[.int .i64 fr, .map (some (w.heap.size + 1 + 1)), .map (some (w.heap.size + 1 + 1 + 1))] 71)) := (below2 w _ _).trans ((below3 _ _ _ _).mono (by simp; omega))
    subst hA0
    exact ⟨rfl, by simpa using k1, by simpa using k2, hbl⟩
  case round =>
    obtain ⟨rfl, h1, h2, hBe⟩ := hrel
    obtain ⟨m0, m1, m2⟩ := h2.three
    obtain ⟨n0, n1, n2⟩ := h1.three
    have f0 := h1.fz 0
    have f1 := h1.fz 1
    have f2 := h1.fz 2
    have HC := hid (h1.p3 (x' := .int .i64 fr) (y' := .map (some (w.heap.size + 1 + 1))) (z' := .map (some (w.heap.size + 1 + 1 + 1))))
    have HB := hid (hBe.trans ((put3_but wr (w.heap.size + 1) (.int .i64 fr) (.map (some (w.heap.size + 1 + 1))) (.map (some (w.heap.size + 1 + 1 + 1)))).below hBe.size (fun k hk e => by omega)))
    clear h1 h2 hBe
    go_wp2_with fail
    exact bodyPost_ret (results_cell_row rfl _ _ (w.heap.size + 1) 71 _ (0, 0) _ rfl HC.out Tryz.underlying71 rfl (by kernel_rfl)) rfl ⟨⟨_, _, rfl⟩, HB.out⟩

end Go.Proofs.YtbllaacbeagljaaGreatDoor
