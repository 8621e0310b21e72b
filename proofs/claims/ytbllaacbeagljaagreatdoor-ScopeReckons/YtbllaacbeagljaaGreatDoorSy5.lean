/-
  syntax: takes, isRun, textMayBe, numberMayBe; kids: mayBe, role.
-/
import Derived.Test.YtbllaacbeagljaaGreatDoorSy4
namespace Go.Proofs.YtbllaacbeagljaaGreatDoor
open Go.RowKit

/-- a node's cells -/
abbrev ncs (k : Int) (s : ByteArray) (n at_ : Int) (a : Option Addr) (l c : Nat) : Array Value := #[.int .i64 k, .string s, .int .i64 n, .int .i64 at_, .slice a l c]
/-- may a node of this kind and text stand there? -/
def takesB (r k : Int) (tx : List Int) : Bool := if r = 8 then (roleZ k == 5 || roleZ k == 6) else if r = 9 then (roleZ k == 5 && wordB tx) else roleZ k == r
set_option maxRecDepth 100000 in
set_option maxHeartbeats 2000000 in
theorem takes_any (r k n at_ : Int) (tx : List Int) (a : Option Addr) (l c : Nat) (w : World) (hB : Pl.isB tx) (hl : tx.length ≤ 16777216) :
    Calls Tryz.prog 102 #[.int .i64 r, .agg (ncs k (strOfNums tx) n at_ a l c)] w fun e w' => e = .returned (.bool (takesB r k tx)) ∧ Below w.heap.size w w' := by
  have HI := fun u => hid (isWord_any tx u hB hl)
  have HB := hid (below1 w (.cells (ncs k (strOfNums tx) n at_ a l c) 25))
  have HR := fun u => hid (roleOf_any k u)
  clear hB hl
  unfold takesB
  generalize roleZ k = z at *
  generalize wordB tx = wd at *
  generalize strOfNums tx = S at *
  by_cases h8 : r = 8
  · subst h8
    rw [if_pos rfl]
    cases h5 : (z == 5) <;>
    · go_enter Tryz.func102, Tryz.ntmps102
      go_wp2_with (go_at_call 121; refine (HR _).out.mono ?_; rintro e w2 ⟨rfl, rfl⟩)
      go_ret
      exact ⟨ret_bool (by first | rfl | (simp; done)), HB.out⟩
  rw [if_neg h8]
  have q8 : (r == 8) = false := by simpa using h8
  by_cases h9 : r = 9
  · subst h9
    rw [if_pos rfl]
    cases h5 : (z == 5) with
    | false =>
      go_enter Tryz.func102, Tryz.ntmps102
      go_wp2_with (go_at_call 121; refine (HR _).out.mono ?_; rintro e w2 ⟨rfl, rfl⟩)
      go_ret
      exact ⟨ret_bool (by first | rfl | (simp; done)), HB.out⟩
    | true =>
      go_enter Tryz.func102, Tryz.ntmps102
      go_wp2_with (first | (go_at_call 121; refine (HR _).out.mono ?_; rintro e w2 ⟨rfl, rfl⟩) | (go_at_call 122; refine (HI _).out.mono ?_; rintro e w2 ⟨rfl, hb2⟩; have HB2 := hid hb2; clear hb2))
      go_ret
      exact ⟨ret_bool (by first | rfl | (simp; done)), HB.out.trans (HB2.out.mono HB.out.size)⟩
  rw [if_neg h9]
  have q9 : (r == 9) = false := by simpa using h9
  go_enter Tryz.func102, Tryz.ntmps102
  go_wp2_with (go_at_call 121; refine (HR _).out.mono ?_; rintro e w2 ⟨rfl, rfl⟩)
  go_ret
  exact ⟨ret_bool (by first | rfl | (simp; done)), HB.out⟩

/-- may a byte stand in a quoted name for itself? -/
def runZ (z : Int) : Bool := !(decide (z < 32) || decide (126 < z) || z == 34 || z == 36 || z == 123 || z == 125)
/-- may a text stand there for itself? -/
def runB (tx : List Int) : Bool := tx.all runZ && !tx.isEmpty
/-- how a number of a node may be -/
def numB (k n : Int) : Bool := if k = 3 then (n == 0 || n == 1) else if k = 20 then (decide (0 ≤ n) && decide (n ≤ 1099511627776)) else n == 0
set_option maxRecDepth 100000 in
set_option maxHeartbeats 2000000 in
theorem number_any (k n at_ : Int) (S : ByteArray) (a : Option Addr) (l c : Nat) (w : World) :
    Calls Tryz.prog 104 #[.agg (ncs k S n at_ a l c)] w fun e w' => e = .returned (.bool (numB k n)) ∧ Below w.heap.size w w' := by
  have HB := hid (below1 w (.cells (ncs k S n at_ a l c) 25))
  unfold numB
  by_cases h3 : k = 3
  · subst h3
    rw [if_pos rfl]
    cases h5 : (n == 0) <;>
    · go_enter Tryz.func104, Tryz.ntmps104
      go_wp2
      go_ret
      exact ⟨ret_bool (by first | rfl | (simp; done)), HB.out⟩
  rw [if_neg h3]
  have q3 : (k == 3) = false := by simpa using h3
  by_cases h20 : k = 20
  · subst h20
    rw [if_pos rfl]
    by_cases h5 : 0 ≤ n
    · go_enter Tryz.func104, Tryz.ntmps104
      go_wp2
      go_ret
      exact ⟨ret_bool (by first | rfl | (simp; done) | (simp [h5]; done)), HB.out⟩
    · have h5' : decide (0 ≤ n) = false := by simpa using h5
      go_enter Tryz.func104, Tryz.ntmps104
      go_wp2
      go_ret
      exact ⟨ret_bool (by first | rfl | (simp; done) | (simp [h5]; done)), HB.out⟩
  rw [if_neg h20]
  have q20 : (k == 20) = false := by simpa using h20
  go_enter Tryz.func104, Tryz.ntmps104
  go_wp2
  go_ret
  exact ⟨ret_bool (by first | rfl | (simp; done)), HB.out⟩

/-- may there be so many? -/
def cntB (q : List Int × Int × Bool) (n : Nat) : Bool := decide (q.2.1 ≤ (n : Int)) && (q.2.2 || decide (n ≤ q.1.length))
set_option maxRecDepth 100000 in
set_option maxHeartbeats 2000000 in
theorem kidsMay_any (q : List Int × Int × Bool) (a : Option Addr) (n : Nat) (w : World) : Calls Tryz.prog 105 #[.agg #[.slice a q.1.length q.1.length, .int .i64 q.2.1, .bool q.2.2], .int .i64 (n : Int)] w fun e w' => e = .returned (.bool (cntB q n)) ∧ Below w.heap.size w w' := by
  have HB := hid (below1 w (.cells #[.slice a q.1.length q.1.length, .int .i64 q.2.1, .bool q.2.2] 189))
  obtain ⟨rs, le, op⟩ := q
  unfold cntB
  simp only at *
  by_cases h1 : le ≤ (n : Int)
  · cases op <;>
    · go_enter Tryz.func105, Tryz.ntmps105
      go_wp2
      go_ret
      exact ⟨ret_bool (by first | rfl | (simp; done) | (simp [h1]; done)), HB.out⟩
  · have h1' : decide (le ≤ (n : Int)) = false := by simpa using h1
    go_enter Tryz.func105, Tryz.ntmps105
    go_wp2
    go_ret
    exact ⟨ret_bool (by first | rfl | (simp; done) | (simp [h1]; done)), HB.out⟩
/-- the role of the kid of a place -/
def rolAt (q : List Int × Int × Bool) (i : Nat) : Int := q.1.getD (min i (q.1.length - 1)) 0
set_option maxRecDepth 100000 in
set_option maxHeartbeats 2000000 in
theorem kidsRole_any {B : Nat} (q : List Int × Int × Bool) (a : Option Addr) (i : Nat) (w : World) (hK : Kd B w (.agg #[.slice a q.1.length q.1.length, .int .i64 q.2.1, .bool q.2.2]) q) (h0 : 0 < q.1.length) (hl : q.1.length ≤ 3) :
    Calls Tryz.prog 107 #[.agg #[.slice a q.1.length q.1.length, .int .i64 q.2.1, .bool q.2.2], .int .i64 (i : Int)] w fun e w' => e = .returned (.int .i64 (rolAt q i)) ∧ Below w.heap.size w w' := by
  obtain ⟨a', e, hr⟩ := hK
  obtain rfl : a = a' := by simpa using e
  rcases hr with hr | ⟨g, rfl, hg, hb⟩
  · rw [hr] at h0; simp at h0
  have HB := hid (below1 w (.cells #[.slice (some ⟨g, 0, none⟩) q.1.length q.1.length, .int .i64 q.2.1, .bool q.2.2] 189))
  obtain ⟨rs, le, op⟩ := q
  simp only at *
  have hlt := hb.lt
  have hc := hb.cell (min i (rs.length - 1)) (by omega)
  have hR : rolAt (rs, le, op) i = rs.getD (min i (rs.length - 1)) 0 := rfl
  have HR := hid hR
  clear hR e
  generalize hm : min i (rs.length - 1) = m at *
  have hm' : min (i : Int) ((rs.length : Int) - 1) = (m : Int) := by omega
  have hml : m < rs.length := by omega
  have Hm := hid hm
  generalize rs.getD m 0 = x at *
  generalize rs.length = L at *
  clear hm hb
  go_enter Tryz.func107, Tryz.ntmps107
  go_wp2
  go_ret
  exact ⟨ret_int HR.out.symm, HB.out⟩

end Go.Proofs.YtbllaacbeagljaaGreatDoor
