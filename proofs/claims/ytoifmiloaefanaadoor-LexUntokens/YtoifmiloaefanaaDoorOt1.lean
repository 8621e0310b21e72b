/-
  other: the tokens with other contents.
-/
import Derived.Test.YtoifmiloaefanaaDoorOt0
namespace Go.Proofs.YtoifmiloaefanaaDoor
open Go.RowKit

theorem OwT.set4 {B : Nat} {w : World} {g n c : Nat} {ts : List Tk} (h : OwT B w (.slice (Option.some ⟨g, 0, none⟩) n c) ts) (hn : ts.length = n) (i : Nat) (t : Tk) (hi : i < ts.length) : OwT B ((((w.setCell ⟨g, i * 4, none⟩ (.int .i64 t.k)).setCell ⟨g, i * 4 + 1, none⟩ (.string (strOfNums t.tx))).setCell ⟨g, i * 4 + 2, none⟩ (.int .i64 t.n)).setCell ⟨g, i * 4 + 3, none⟩ (.int .i64 t.a)) (.slice (Option.some ⟨g, 0, none⟩) n c) (ts.set i t) := by
  subst hn
  unfold OwT at *
  have h1 := (World.ownsRow.stored h (i * 4) (.int .i64 t.k)).1
  have h2 := (World.ownsRow.stored h1 (i * 4 + 1) (.string (strOfNums t.tx))).1
  have h3 := (World.ownsRow.stored h2 (i * 4 + 2) (.int .i64 t.n)).1
  have h4 := (World.ownsRow.stored h3 (i * 4 + 3) (.int .i64 t.a)).1
  rw [List.length_set, flatT_set ts i t hi]
  exact h4
/-- back to front, the first k -/
def revK (ts : List Tk) : Nat → List Tk
  | 0 => ts
  | k + 1 => (revK ts k).set k (ts.getD (ts.length - 1 - k) tkZ)
theorem revK_len (ts : List Tk) : ∀ k, (revK ts k).length = ts.length
  | 0 => rfl
  | k + 1 => by rw [revK, List.length_set, revK_len ts k]
/-- the other tokens -/
def othL (ts : List Tk) (turn : Int) : List Tk := if turn = 1 ∧ 0 < ts.length then ts.set (ts.length / 2) ⟨1, [98], 0, 0⟩ else if turn = 2 then revK ts ts.length else ts
theorem set4_below {B : Nat} {a w : World} (h : Below B a w) {g : Nat} (hg : B ≤ g) (o : Nat) (v0 v1 v2 v3 : Value) : Below B a ((((w.setCell ⟨g, o, none⟩ v0).setCell ⟨g, o + 1, none⟩ v1).setCell ⟨g, o + 2, none⟩ v2).setCell ⟨g, o + 3, none⟩ v3) :=
  (((h.setCell (p := ⟨g, o, none⟩) hg _).setCell (p := ⟨g, o + 1, none⟩) hg _).setCell (p := ⟨g, o + 2, none⟩) hg _).setCell (p := ⟨g, o + 3, none⟩) hg _
/-- what other answers -/
def OtQ (w : World) (n : Nat) (ls : List Tk) (e : Ending) (w' : World) : Prop := ∃ g cc, e = .returned (.slice (some ⟨g, 0, none⟩) n cc) ∧ w.heap.size ≤ g ∧ OwT w.heap.size w' (.slice (some ⟨g, 0, none⟩) n cc) ls ∧ Below w.heap.size w w'
set_option maxRecDepth 100000 in
set_option maxHeartbeats 1000000 in
theorem other_same (a : Option Addr) (n c : Nat) (ts : List Tk) (turn : Int) (w : World) (hn : ts.length = n) (hN : n ≤ 1048576) (hO : TkO w a c ts) (h1 : turn ≠ 1) (h2 : turn ≠ 2) : Calls Tryd.prog 14 #[.slice a n c, .int .i64 turn] w (OtQ w n ts) := by
  have HC := hid (CopyTokens_rd a n c ts w hn hO (by omega))
  obtain ⟨PQ, hPQ⟩ : ∃ PQ, PQ = OtQ w n ts := ⟨_, rfl⟩
  rw [← hPQ]
  have HPQ := hid hPQ
  clear hO hPQ
  go_enter Tryd.func14, Tryd.ntmps14
  go_wp2_with fail
  refine Calls.mono HC.out ?_
  rintro e w1 ⟨g, cc, rfl, k1, k2, k3⟩
  have HK := hid (And.intro k1 (And.intro k2 k3))
  clear k1 k2 k3 HC
  go_wp2_with fail
  go_loopw [6] (fun iv wr => iv = .int .i64 0 ∧ wr = w1) (fun _ _ => 0)
  case atStart => exact ⟨rfl, rfl⟩
  case round =>
    obtain ⟨rfl, rfl⟩ := hrel
    go_wp2_with fail
    rw [HPQ.out]
    exact ⟨g, cc, rfl, HK.out.1, HK.out.2.1, HK.out.2.2⟩

set_option maxRecDepth 100000 in
set_option maxHeartbeats 1000000 in
theorem other_one (a : Option Addr) (n c : Nat) (ts : List Tk) (w : World) (hn : ts.length = n) (hN : n ≤ 1048576) (hO : TkO w a c ts) : Calls Tryd.prog 14 #[.slice a n c, .int .i64 1] w (OtQ w n (if 0 < n then ts.set (n / 2) ⟨1, [98], 0, 0⟩ else ts)) := by
  have HC := hid (CopyTokens_rd a n c ts w hn hO (by omega))
  by_cases h0 : 0 < n
  · rw [if_pos h0]
    obtain ⟨PQ, hPQ⟩ : ∃ PQ, PQ = OtQ w n (ts.set (n / 2) ⟨1, [98], 0, 0⟩) := ⟨_, rfl⟩
    rw [← hPQ]
    have HPQ := hid hPQ
    have h0' : (0 : Int) < (n : Int) := by omega
    have hq : ((n : Int)).tdiv 2 = ((n / 2 : Nat) : Int) := by rw [Int.tdiv_eq_ediv_of_nonneg (by omega)]; omega
    clear hO hPQ
    go_enter Tryd.func14, Tryd.ntmps14
    go_wp2_with fail
    refine Calls.mono HC.out ?_
    rintro e w1 ⟨g, cc, rfl, k1, k2, k3⟩
    have hi : n / 2 < ts.length := by omega
    obtain ⟨c0, c1, c2, c3⟩ := k2.cell4 hn.symm (n / 2) hi
    have f0 := World.ownsRow.frozenAt (by unfold OwT at k2; rw [hn] at k2; exact k2) (n / 2 * 4)
    have f1 := World.ownsRow.frozenAt (by unfold OwT at k2; rw [hn] at k2; exact k2) (n / 2 * 4 + 1)
    have f2 := World.ownsRow.frozenAt (by unfold OwT at k2; rw [hn] at k2; exact k2) (n / 2 * 4 + 2)
    have f3 := World.ownsRow.frozenAt (by unfold OwT at k2; rw [hn] at k2; exact k2) (n / 2 * 4 + 3)
    have HK : Hid (w.heap.size ≤ g ∧ ∀ W, W = (((w1.setCell ⟨g, n / 2 * 4, none⟩ (.int .i64 1)).setCell ⟨g, n / 2 * 4 + 1, none⟩ (.string ⟨#[98]⟩)).setCell ⟨g, n / 2 * 4 + 2, none⟩ (.int .i64 0)).setCell ⟨g, n / 2 * 4 + 3, none⟩ (.int .i64 0) → OwT w.heap.size W (.slice (some ⟨g, 0, none⟩) n cc) (ts.set (n / 2) ⟨1, [98], 0, 0⟩) ∧ Below w.heap.size w W) := ⟨k1, fun W hW => by
      have h4 := k2.set4 hn (n / 2) ⟨1, [98], 0, 0⟩ hi
      have e0 : strOfNums [98] = (⟨#[98]⟩ : ByteArray) := rfl
      simp only [e0] at h4
      rw [← hW] at h4
      exact ⟨h4, by rw [hW]; exact set4_below k3 k1 _ _ _ _ _⟩⟩
    have hm : n / 2 < n := by omega
    have hm' : ((n / 2 : Nat) : Int) < (n : Int) := by omega
    clear k1 k2 k3 HC
    generalize n / 2 = m at *
    go_wp2_with fail
    obtain ⟨WX, hWX⟩ : ∃ WX, WX = (((w1.setCell ⟨g, m * 4, none⟩ (.int .i64 1)).setCell ⟨g, m * 4 + 1, none⟩ (.string ⟨#[98]⟩)).setCell ⟨g, m * 4 + 2, none⟩ (.int .i64 0)).setCell ⟨g, m * 4 + 3, none⟩ (.int .i64 0) := ⟨_, rfl⟩
    rw [← hWX]
    have HX := hid (HK.out.2 WX hWX)
    have HX1 := hid HK.out.1
    clear hWX HK c0 c1 c2 c3 f0 f1 f2 f3
    go_loopw [6] (fun iv wr => iv = .int .i64 0 ∧ wr = WX) (fun _ _ => 0)
    case atStart => exact ⟨rfl, rfl⟩
    case round =>
      obtain ⟨rfl, rfl⟩ := hrel
      go_wp2_with fail
      rw [HPQ.out]
      exact ⟨g, cc, rfl, HX1.out, HX.out.1, HX.out.2⟩
  · rw [if_neg h0]
    obtain ⟨PQ, hPQ⟩ : ∃ PQ, PQ = OtQ w n ts := ⟨_, rfl⟩
    rw [← hPQ]
    have HPQ := hid hPQ
    obtain rfl : n = 0 := by omega
    clear hO hPQ
    go_enter Tryd.func14, Tryd.ntmps14
    go_wp2_with fail
    refine Calls.mono HC.out ?_
    rintro e w1 ⟨g, cc, rfl, k1, k2, k3⟩
    have HK := hid (And.intro k1 (And.intro k2 k3))
    clear k1 k2 k3 HC
    go_wp2_with fail
    go_loopw [6] (fun iv wr => iv = .int .i64 0 ∧ wr = w1) (fun _ _ => 0)
    case atStart => exact ⟨rfl, rfl⟩
    case round =>
      obtain ⟨rfl, rfl⟩ := hrel
      go_wp2_with fail
      rw [HPQ.out]
      exact ⟨g, cc, rfl, HK.out.1, HK.out.2.1, HK.out.2.2⟩

end Go.Proofs.YtoifmiloaefanaaDoor
