import Derived.Test.YtddddfankeepkaaGreatDoorF17
import Derived.Lib.ItoaNum
namespace Go.Proofs.YtddddfankeepkaaGreatDoor
open Go.RowKit
def nums (s : ByteArray) : List Int := s.data.toList.map fun b => (b.toNat : Int)
theorem str_nums (s : ByteArray) : strOfNums (nums s) = s := by
 apply ByteArray.ext
 apply Array.toList_inj.1
 rw [strOfNums_data]
 unfold nums
 rw [List.map_map]
 conv => rhs; rw [← List.map_id s.data.toList]
 apply List.map_congr_left
 intro b _
 simp
theorem length_nums (s : ByteArray) : (nums s).length = s.size := by unfold nums; rw [List.length_map]; rfl
theorem isB_nums (s : ByteArray) : Pl.isB (nums s) := by
 intro z hz
 unfold nums at hz
 rw [List.mem_map] at hz
 obtain ⟨b, _, rfl⟩ := hz
 have := b.toNat_lt
 omega
def nmB (s : ByteArray) : Bool := nmd (nums s)
theorem IsName_s (s : ByteArray) (hs : s.size ≤ 16777216) (w : World) : Calls Tryz.prog 121 #[.string s] w fun e w' => e = .returned (.bool (nmB s)) ∧ w' = w := by
 have h := IsName_any (nums s) (isB_nums s) (by rw [length_nums]; exact hs) w
 rw [str_nums] at h
 exact h
theorem nmB_size {s : ByteArray} (h : nmB s = true) : 1 ≤ s.size ∧ s.size ≤ 31 := by
 unfold nmB nmd at h
 simp only [Bool.and_eq_true, decide_eq_true_eq, length_nums] at h
 omega
abbrev cNM : ByteArray := ⟨#[78, 65, 77, 69]⟩
abbrev cOT : ByteArray := ⟨#[79, 84, 72, 69, 82]⟩
abbrev cFR : ByteArray := ⟨#[70, 82, 79, 77]⟩
abbrev cTO : ByteArray := ⟨#[84, 79]⟩
abbrev cDA : ByteArray := ⟨#[68, 65, 84, 65]⟩
abbrev cE : ByteArray := ⟨#[]⟩
abbrev wof : ByteArray := ⟨#[111, 102]⟩
abbrev wto : ByteArray := ⟨#[116, 111]⟩
abbrev wfrom : ByteArray := ⟨#[102, 114, 111, 109]⟩
def kw : Nat → ByteArray
 | 1 => ⟨#[99, 114, 101, 97, 116, 101]⟩
 | 2 => ⟨#[115, 110, 97, 112]⟩
 | 3 => ⟨#[99, 108, 111, 110, 101]⟩
 | 4 => ⟨#[114, 101, 115, 105, 122, 101]⟩
 | 5 => ⟨#[114, 101, 110, 97, 109, 101]⟩
 | 6 => ⟨#[100, 101, 108, 101, 116, 101]⟩
 | 7 => ⟨#[114, 101, 115, 116, 111, 114, 101]⟩
 | 8 => ⟨#[119, 114, 105, 116, 101]⟩
 | 9 => ⟨#[100, 105, 115, 99, 97, 114, 100]⟩
 | 10 => ⟨#[102, 105, 108, 108]⟩
 | 11 => ⟨#[101, 120, 116, 101, 110, 100]⟩
 | _ => cE
def tl : Nat → ByteArray × ByteArray × ByteArray
 | 1 => (cNM, cTO, cE)
 | 2 => (cNM, wof, cOT)
 | 3 => (cNM, wof, cOT)
 | 4 => (cNM, cTO, cE)
 | 5 => (cNM, wto, cOT)
 | 6 => (cNM, cE, cE)
 | 7 => (cNM, wfrom, cOT)
 | 8 => (cNM, cFR, cDA)
 | 9 => (cNM, cFR, cTO)
 | 10 => (cNM, cFR, cTO)
 | 11 => (cTO, cE, cE)
 | _ => (cE, cE, cE)
def frm (k : Nat) : List ByteArray := [kw k, (tl k).1, (tl k).2.1, (tl k).2.2]
abbrev frV (k : Nat) : Value := .agg #[.string (kw k), .string (tl k).1, .string (tl k).2.1, .string (tl k).2.2]
def ftab (i : Nat) : ByteArray := (frm (i / 4)).getD (i % 4) cE
structure GT (w : World) : Prop where
 fm : ∀ i, i < 48 → w.cell? ⟨0, i, none⟩ = some (.string (ftab i))
 mx : ∃ m, w.cell? ⟨1, 0, none⟩ = some (.int .i64 m)
 lt : 2 ≤ w.heap.size
theorem GT.below {w w' : World} {B : Nat} (h : GT w) (hb : Below B w w') (hB : 2 ≤ B) : GT w' where
 fm i hi := (hb.cell (show (0 : Nat) < B by omega)).trans (h.fm i hi)
 mx := let ⟨m, hm⟩ := h.mx; ⟨m, (hb.cell (show (1 : Nat) < B by omega)).trans hm⟩
 lt := by have := hb.size; have := h.lt; omega
theorem GT.next {w w' : World} (h : GT w) (hb : Below w.heap.size w w') : GT w' := h.below hb h.lt
theorem results_row_tmp {P : Program} {fn : Func} {p u : Tmp} {ty : TypeId} (h : fn.results = #[.cell p ty, .tmp u]) (tmps : Array Value) (w : World) (g : Nat) (t : TypeId) (cs : Array Value) (fr : Nat × Nat) (d : TypeDesc) (x : Value)
  (hp : tmps.getD p undef = .pointer (some ⟨g, 0, none⟩)) (hx : tmps.getD u undef = x) (hg : w.heap[g]? = some (.cells cs t fr))
  (hu : P.underlying ty = some d) (hd : (match d with | .struct _ | .array _ _ => true | _ => false) = true) (hi : (P.info? ty).map (·.size) = some cs.size) :
  (results fn tmps).run P w = .ok (.tuple #[.agg cs, x]) w := by
 rw [results_cell_tmp h, hp, hx]
 simp [asAddr, run_loadVar_row w g t ty cs fr d hg hu hd hi]
set_option maxRecDepth 100000 in
set_option maxHeartbeats 1000000 in
theorem formOf_no (k : Int) (h : k < 1 ∨ 11 < k) (w : World) : Calls Tryz.prog 118 #[.int .i64 k] w fun e w' => e = .returned (.tuple #[frV 0, .bool false]) ∧ Below w.heap.size w w' := by
 have H := hid (within_any k 1 11)
 have e : (decide (1 ≤ k) && decide (k ≤ 11)) = false := by simp; omega
 rw [e] at H
 clear e h
 go_enter Tryz.func118, Tryz.ntmps118
 go_wp2_with fail
 refine Calls.mono (H.out _) ?_
 rintro e w' ⟨rfl, rfl⟩
 go_wp2
 exact bodyPost_ret (results_row_tmp rfl _ _ w.heap.size 134 #[.string cE, .string cE, .string cE, .string cE] (0, 0) _ (.bool false) rfl rfl (heap_new _ _) Tryz.underlying134 rfl (by kernel_rfl)) rfl ⟨rfl, below1 _ _⟩
set_option maxRecDepth 100000 in
set_option maxHeartbeats 4000000 in
theorem formOf_yes (k : Nat) (h1 : 1 ≤ k) (h2 : k ≤ 11) (w : World) (hG : GT w) : Calls Tryz.prog 118 #[.int .i64 (k : Int)] w fun e w' => e = .returned (.tuple #[frV k, .bool true]) ∧ Below w.heap.size w w' := by
 have H := hid (within_any (k : Int) 1 11)
 have e : (decide (1 ≤ (k : Int)) && decide ((k : Int) ≤ 11)) = true := by simp; omega
 rw [e] at H
 clear e
 have h0 : ∀ j, j < 4 → ∀ o, (w.alloc o).cell? ⟨0, 4 * k + j, none⟩ = some (.string (ftab (4 * k + j))) := fun j hj o => by
  rw [World.cell?_alloc_old _ _ _ (by have := hG.lt; show (0 : Nat) ≠ _; omega)]
  exact hG.fm _ (by omega)
 have c0 := h0 0 (by decide)
 have c1 := h0 1 (by decide)
 have c2 := h0 2 (by decide)
 have c3 := h0 3 (by decide)
 clear h0 hG
 rcases (show k = 1 ∨ k = 2 ∨ k = 3 ∨ k = 4 ∨ k = 5 ∨ k = 6 ∨ k = 7 ∨ k = 8 ∨ k = 9 ∨ k = 10 ∨ k = 11 by omega) with rfl | rfl | rfl | rfl | rfl | rfl | rfl | rfl | rfl | rfl | rfl
 all_goals
  go_enter Tryz.func118, Tryz.ntmps118
  go_wp2_with fail
  refine Calls.mono (H.out _) ?_
  rintro e w' ⟨rfl, rfl⟩
  go_wp2
 all_goals exact bodyPost_ret (results_row_tmp rfl _ _ w.heap.size 134 _ (0, 0) _ (.bool true) rfl rfl (heap_new _ _) Tryz.underlying134 rfl (by kernel_rfl)) rfl ⟨rfl, below1 _ _⟩
end Go.Proofs.YtddddfankeepkaaGreatDoor
namespace Go.Proofs.YtddddfankeepkaaGreatDoor
open Go.RowKit
abbrev opV (k : Int) (nm ot : ByteArray) (fr to : Int) (a : Option Addr) (n c : Nat) : Value := .agg #[.int .i64 k, .string nm, .string ot, .int .i64 fr, .int .i64 to, .slice a n c]
def empS (s : ByteArray) : Bool := s.toList == []
def hs (k : Nat) (x : ByteArray) : Bool := Lib.containsS (frm k) x
def isF5 (b1 b2 b3 b4 b5 : Bool) (nm ot : ByteArray) (fr to : Int) (n : Nat) : Bool := (b1 || empS nm) && (b2 || empS ot) && (b3 || fr == 0) && (b4 || to == 0) && (b5 || (n : Int) == 0)
set_option maxRecDepth 100000 in
set_option maxHeartbeats 4000000 in
theorem isFormOf_walk (f0 f1 f2 f3 : ByteArray) (k : Int) (nm ot : ByteArray) (fr to : Int) (a : Option Addr) (n c : Nat) (w : World) (b1 b2 b3 b4 b5 : Bool)
  (h1 : Lib.containsS [f0, f1, f2, f3] cNM = b1) (h2 : Lib.containsS [f0, f1, f2, f3] cOT = b2) (h3 : Lib.containsS [f0, f1, f2, f3] cFR = b3) (h4 : Lib.containsS [f0, f1, f2, f3] cTO = b4) (h5 : Lib.containsS [f0, f1, f2, f3] cDA = b5)
  (hb : (b1, b2, b3, b4, b5) ∈ [(true, false, false, true, false), (true, true, false, false, false), (true, false, false, false, false), (true, false, true, false, true), (true, false, true, true, false), (false, false, false, true, false)]) :
  Calls Tryz.prog 119 #[.agg #[.string f0, .string f1, .string f2, .string f3], opV k nm ot fr to a n c] w fun e w' => e = .returned (.bool (isF5 b1 b2 b3 b4 b5 nm ot fr to n)) ∧ Below w.heap.size w w' := by
 have H1 := hid (has_any f0 f1 f2 f3 cNM)
 have H2 := hid (has_any f0 f1 f2 f3 cOT)
 have H3 := hid (has_any f0 f1 f2 f3 cFR)
 have H4 := hid (has_any f0 f1 f2 f3 cTO)
 have H5 := hid (has_any f0 f1 f2 f3 cDA)
 rw [h1] at H1
 rw [h2] at H2
 rw [h3] at H3
 rw [h4] at H4
 rw [h5] at H5
 clear h1 h2 h3 h4 h5
 simp only [List.mem_cons, Prod.mk.injEq, List.not_mem_nil, or_false] at hb
 rcases hb with ⟨rfl, rfl, rfl, rfl, rfl⟩ | ⟨rfl, rfl, rfl, rfl, rfl⟩ | ⟨rfl, rfl, rfl, rfl, rfl⟩ | ⟨rfl, rfl, rfl, rfl, rfl⟩ | ⟨rfl, rfl, rfl, rfl, rfl⟩ | ⟨rfl, rfl, rfl, rfl, rfl⟩
 all_goals
  go_enter Tryz.func119, Tryz.ntmps119
  go_wp2_with (first | (go_at_call 120; with_reducible refine (H1.out _).mono ?_; rintro e w' ⟨rfl, rfl⟩) | (go_at_call 120; with_reducible refine (H2.out _).mono ?_; rintro e w' ⟨rfl, rfl⟩) | (go_at_call 120; with_reducible refine (H3.out _).mono ?_; rintro e w' ⟨rfl, rfl⟩) | (go_at_call 120; with_reducible refine (H4.out _).mono ?_; rintro e w' ⟨rfl, rfl⟩) | (go_at_call 120; with_reducible refine (H5.out _).mono ?_; rintro e w' ⟨rfl, rfl⟩))
  all_goals go_ret
  all_goals refine ⟨by simp [isF5, empS, *], ?_⟩
  all_goals (repeat first | exact Below.refl _ _ | refine Below.alloc ?_ (by simp <;> omega) _)
def szB (k to : Int) : Bool := if k = 1 ∨ k = 4 ∨ k = 11 then decide (1 ≤ to) && decide (to ≤ 262144) else true
def rgB (k fr to : Int) : Bool := if k = 8 then decide (0 ≤ fr) && decide (fr ≤ 262143) else if k = 9 then decide (0 ≤ fr) && decide (to ≤ 262144) && decide (fr ≤ to) else if k = 10 then decide (0 ≤ fr) && decide (to ≤ 262144) && decide (fr ≤ to) && decide (to - fr ≤ 32) else true
set_option maxRecDepth 100000 in
set_option maxHeartbeats 4000000 in
theorem size_any (k : Int) (nm ot : ByteArray) (fr to : Int) (a : Option Addr) (n c : Nat) (w : World) :
  Calls Tryz.prog 122 #[opV k nm ot fr to a n c] w fun e w' => e = .returned (.bool (szB k to)) ∧ Below w.heap.size w w' := by
 have H := hid (within_any to 1 262144)
 by_cases h1 : k = 1 ∨ k = 4 ∨ k = 11
 ·have e : szB k to = (decide (1 ≤ to) && decide (to ≤ 262144)) := if_pos h1
  rw [e]
  generalize (decide (1 ≤ to) && decide (to ≤ 262144)) = b at *
  rcases h1 with rfl | rfl | rfl
  all_goals
   go_enter Tryz.func122, Tryz.ntmps122
   go_wp2_with (go_at_call 136; with_reducible refine (H.out _).mono ?_; rintro e w' ⟨rfl, rfl⟩)
   go_ret
   exact ⟨rfl, below1 _ _⟩
 ·have e : szB k to = true := if_neg h1
  rw [e]
  have q1 : (k == 1) = false := by simp; omega
  have q2 : (k == 4) = false := by simp; omega
  have q3 : (k == 11) = false := by simp; omega
  go_enter Tryz.func122, Tryz.ntmps122
  go_wp2
  go_ret
  exact ⟨rfl, below1 _ _⟩
set_option maxRecDepth 100000 in
set_option maxHeartbeats 8000000 in
theorem range_any (k : Int) (nm ot : ByteArray) (fr to : Int) (a : Option Addr) (n c : Nat) (w : World) (hf : -9223372036854775808 ≤ fr) (ht : to ≤ 9223372036854775807) :
  Calls Tryz.prog 123 #[opV k nm ot fr to a n c] w fun e w' => e = .returned (.bool (rgB k fr to)) ∧ Below w.heap.size w w' := by
 have H := hid (within_any fr 0 262143)
 by_cases h8 : k = 8
 ·have e : rgB k fr to = (decide (0 ≤ fr) && decide (fr ≤ 262143)) := if_pos h8
  rw [e]
  generalize (decide (0 ≤ fr) && decide (fr ≤ 262143)) = b at *
  subst h8
  go_enter Tryz.func123, Tryz.ntmps123
  go_wp2_with (go_at_call 136; with_reducible refine (H.out _).mono ?_; rintro e w' ⟨rfl, rfl⟩)
  all_goals go_ret
  all_goals exact ⟨rfl, below1 _ _⟩
 by_cases h9 : k = 9
 ·have e : rgB k fr to = (decide (0 ≤ fr) && decide (to ≤ 262144) && decide (fr ≤ to)) := by unfold rgB; rw [if_neg h8, if_pos h9]
  rw [e]
  subst h9
  by_cases q1 : 0 ≤ fr <;> by_cases q2 : to ≤ 262144 <;> by_cases q3 : fr ≤ to
  all_goals try (exfalso; omega)
  all_goals
   go_enter Tryz.func123, Tryz.ntmps123
   go_wp2
   all_goals go_ret
   all_goals exact ⟨by first | (simp [*]; done) | (simp [*]; omega), below1 _ _⟩
 by_cases h10 : k = 10
 ·have e : rgB k fr to = (decide (0 ≤ fr) && decide (to ≤ 262144) && decide (fr ≤ to) && decide (to - fr ≤ 32)) := by unfold rgB; rw [if_neg h8, if_neg h9, if_pos h10]
  rw [e]
  subst h10
  by_cases q1 : 0 ≤ fr <;> by_cases q2 : to ≤ 262144 <;> by_cases q3 : fr ≤ to
  ·by_cases q4 : to - fr ≤ 32
   all_goals
    go_enter Tryz.func123, Tryz.ntmps123
    go_wp2
    all_goals go_ret
    all_goals exact ⟨by first | (simp [*]; done) | (simp [*]; omega), below1 _ _⟩
  all_goals try (exfalso; omega)
  all_goals
   go_enter Tryz.func123, Tryz.ntmps123
   go_wp2
   all_goals go_ret
   all_goals exact ⟨by first | (simp [*]; done) | (simp [*]; omega), below1 _ _⟩
 ·have e : rgB k fr to = true := by unfold rgB; rw [if_neg h8, if_neg h9, if_neg h10]
  rw [e]
  have p1 : (k == 8) = false := by simp; omega
  have p2 : (k == 9) = false := by simp; omega
  have p3 : (k == 10) = false := by simp; omega
  by_cases q1 : 0 ≤ fr <;> by_cases q2 : to ≤ 262144 <;> by_cases q3 : fr ≤ to
  all_goals try (exfalso; omega)
  all_goals
   go_enter Tryz.func123, Tryz.ntmps123
   go_wp2
   all_goals go_ret
   all_goals exact ⟨rfl, below1 _ _⟩
end Go.Proofs.YtddddfankeepkaaGreatDoor
namespace Go.Proofs.YtddddfankeepkaaGreatDoor
open Go.RowKit
def uN (k : Nat) : Bool := decide (k ≤ 10)
def uO (k : Nat) : Bool := decide (k = 2 ∨ k = 3 ∨ k = 5 ∨ k = 7)
def uF (k : Nat) : Bool := decide (8 ≤ k ∧ k ≤ 10)
def uT (k : Nat) : Bool := decide (k = 1 ∨ k = 4 ∨ 9 ≤ k)
def uD (k : Nat) : Bool := decide (k = 8)
theorem nat_kinds {k : Nat} (h1 : 1 ≤ k) (h2 : k ≤ 11) : k = 1 ∨ k = 2 ∨ k = 3 ∨ k = 4 ∨ k = 5 ∨ k = 6 ∨ k = 7 ∨ k = 8 ∨ k = 9 ∨ k = 10 ∨ k = 11 := by omega
set_option maxRecDepth 100000 in
theorem hs_eq {k : Nat} (h1 : 1 ≤ k) (h2 : k ≤ 11) : Lib.containsS (frm k) cNM = uN k ∧ Lib.containsS (frm k) cOT = uO k ∧ Lib.containsS (frm k) cFR = uF k ∧ Lib.containsS (frm k) cTO = uT k ∧ Lib.containsS (frm k) cDA = uD k := by
 rcases nat_kinds h1 h2 with rfl | rfl | rfl | rfl | rfl | rfl | rfl | rfl | rfl | rfl | rfl <;> decide +kernel
set_option maxRecDepth 100000 in
theorem vec_ok {k : Nat} (h1 : 1 ≤ k) (h2 : k ≤ 11) : (uN k, uO k, uF k, uT k, uD k) ∈ [(true, false, false, true, false), (true, true, false, false, false), (true, false, false, false, false), (true, false, true, false, true), (true, false, true, true, false), (false, false, false, true, false)] := by
 rcases nat_kinds h1 h2 with rfl | rfl | rfl | rfl | rfl | rfl | rfl | rfl | rfl | rfl | rfl <;> decide
def isF (k : Nat) (nm ot : ByteArray) (fr to : Int) (n : Nat) : Bool := isF5 (uN k) (uO k) (uF k) (uT k) (uD k) nm ot fr to n
def ckO (k : Int) (nm ot : ByteArray) (fr to : Int) (n : Nat) : Int :=
 if k < 1 ∨ 11 < k then 100 else if isF k.toNat nm ot fr to n = false then 101 else if (uN k.toNat && !nmB nm) = true then 102 else if (uO k.toNat && !nmB ot) = true then 102
 else if (uD k.toNat && (n : Int) != 512) = true then 103 else if szB k to = false then 106 else if rgB k fr to = false then 107 else 0
structure CkS (S F : Nat) (k : Int) (nm ot : ByteArray) (fr to : Int) (a : Option Addr) (n c : Nat) (f0 f1 f2 f3 : ByteArray) (w W : World) : Prop where
 o0 : W.cell? ⟨S, 0, none⟩ = some (.int .i64 k)
 o1 : W.cell? ⟨S, 1, none⟩ = some (.string nm)
 o2 : W.cell? ⟨S, 2, none⟩ = some (.string ot)
 o3 : W.cell? ⟨S, 3, none⟩ = some (.int .i64 fr)
 o4 : W.cell? ⟨S, 4, none⟩ = some (.int .i64 to)
 o5 : W.cell? ⟨S, 5, none⟩ = some (.slice a n c)
 g0 : W.cell? ⟨F, 0, none⟩ = some (.string f0)
 g1 : W.cell? ⟨F, 1, none⟩ = some (.string f1)
 g2 : W.cell? ⟨F, 2, none⟩ = some (.string f2)
 g3 : W.cell? ⟨F, 3, none⟩ = some (.string f3)
 sl : S < W.heap.size
 fl : F < W.heap.size
 bel : Below w.heap.size w W
theorem CkS.step {S F : Nat} {k : Int} {nm ot : ByteArray} {fr to : Int} {a : Option Addr} {n c : Nat} {f0 f1 f2 f3 : ByteArray} {w W W' : World} (h : CkS S F k nm ot fr to a n c f0 f1 f2 f3 w W) (hb : Below W.heap.size W W') : CkS S F k nm ot fr to a n c f0 f1 f2 f3 w W' where
 o0 := (hb.cell h.sl).trans h.o0
 o1 := (hb.cell h.sl).trans h.o1
 o2 := (hb.cell h.sl).trans h.o2
 o3 := (hb.cell h.sl).trans h.o3
 o4 := (hb.cell h.sl).trans h.o4
 o5 := (hb.cell h.sl).trans h.o5
 g0 := (hb.cell h.fl).trans h.g0
 g1 := (hb.cell h.fl).trans h.g1
 g2 := (hb.cell h.fl).trans h.g2
 g3 := (hb.cell h.fl).trans h.g3
 sl := Nat.lt_of_lt_of_le h.sl hb.size
 fl := Nat.lt_of_lt_of_le h.fl hb.size
 bel := h.bel.trans (hb.mono h.bel.size)
set_option maxRecDepth 100000 in
set_option maxHeartbeats 4000000 in
theorem Check_no (k : Int) (h : k < 1 ∨ 11 < k) (nm ot : ByteArray) (fr to : Int) (a : Option Addr) (n c : Nat) (w : World) :
  Calls Tryz.prog 102 #[opV k nm ot fr to a n c] w fun e w' => e = .returned (.int .i64 100) ∧ Below w.heap.size w w' := by
 obtain ⟨W, hW⟩ : ∃ W, W = w.alloc (.cells #[.int .i64 k, .string nm, .string ot, .int .i64 fr, .int .i64 to, .slice a n c] 42) := ⟨_, rfl⟩
 have b1 : Below w.heap.size w W := by rw [hW]; exact below1 _ _
 have H := hid (formOf_no k h W)
 have HB := hid b1
 have HW := hid hW
 clear h b1 hW
 go_enter Tryz.func102, Tryz.ntmps102
 go_wp2_with fail
 rw [← HW.out]
 refine Calls.mono H.out ?_
 rintro e w1 ⟨rfl, hb⟩
 have HE := hid (((HB.out).trans (hb.mono HB.out.size)).alloc (Nat.le_trans HB.out.size hb.size) (.cells #[.string (kw 0), .string (tl 0).1, .string (tl 0).2.1, .string (tl 0).2.2] 134))
 clear hb HB HW H
 go_wp2
 go_ret
 exact ⟨rfl, HE.out⟩
set_option maxRecDepth 100000 in
set_option maxHeartbeats 8000000 in
theorem Check_yes (k : Nat) (h1 : 1 ≤ k) (h2 : k ≤ 11) (nm ot : ByteArray) (fr to : Int) (a : Option Addr) (n c : Nat) (w : World) (hG : GT w) (hnm : nm.size ≤ 16777216) (hot : ot.size ≤ 16777216) (hf : -9223372036854775808 ≤ fr) (ht : to ≤ 9223372036854775807) :
  Calls Tryz.prog 102 #[opV k nm ot fr to a n c] w fun e w' => e = .returned (.int .i64 (ckO k nm ot fr to n)) ∧ Below w.heap.size w w' := by
 obtain ⟨W, hW⟩ : ∃ W, W = w.alloc (.cells #[.int .i64 (k : Int), .string nm, .string ot, .int .i64 fr, .int .i64 to, .slice a n c] 42) := ⟨_, rfl⟩
 have b1 : Below w.heap.size w W := by rw [hW]; exact below1 _ _
 have zW : W.heap.size = w.heap.size + 1 := by rw [hW]; simp
 obtain ⟨e1, e2, e3, e4, e5⟩ := hs_eq h1 h2
 have H32 : Hid (Calls Tryz.prog 118 #[.int .i64 (k : Int)] W fun e w1 => e = .returned (.tuple #[.agg #[.string (kw k), .string (tl k).1, .string (tl k).2.1, .string (tl k).2.2], .bool true]) ∧ CkS w.heap.size w1.heap.size k nm ot fr to a n c (kw k) (tl k).1 (tl k).2.1 (tl k).2.2 w (w1.alloc (.cells #[.string (kw k), .string (tl k).1, .string (tl k).2.1, .string (tl k).2.2] 134))) := by
  refine (formOf_yes k h1 h2 W (hG.next b1)).mono ?_
  rintro e w1 ⟨rfl, hb⟩
  have b2 := below1 w1 (.cells #[.string (kw k), .string (tl k).1, .string (tl k).2.1, .string (tl k).2.2] 134)
  have b3 : Below W.heap.size W (w1.alloc (.cells #[.string (kw k), .string (tl k).1, .string (tl k).2.1, .string (tl k).2.2] 134)) := hb.trans (b2.mono hb.size)
  have l1 : w.heap.size < W.heap.size := by omega
  refine ⟨rfl, ⟨(b3.cell l1).trans (cell_al hW 0 _ rfl), (b3.cell l1).trans (cell_al hW 1 _ rfl), (b3.cell l1).trans (cell_al hW 2 _ rfl), (b3.cell l1).trans (cell_al hW 3 _ rfl), (b3.cell l1).trans (cell_al hW 4 _ rfl), (b3.cell l1).trans (cell_al hW 5 _ rfl), cell_new rfl 0 _ rfl, cell_new rfl 1 _ rfl, cell_new rfl 2 _ rfl, cell_new rfl 3 _ rfl, ?_, by simp, b1.trans (b3.mono b1.size)⟩⟩
  have := hb.size
  simp
  omega
 have H33 := hid (fun W0 => isFormOf_walk (kw k) (tl k).1 (tl k).2.1 (tl k).2.2 k nm ot fr to a n c W0 _ _ _ _ _ e1 e2 e3 e4 e5 (vec_ok h1 h2))
 have HN := hid (has_any (kw k) (tl k).1 (tl k).2.1 (tl k).2.2 cNM)
 have HO := hid (has_any (kw k) (tl k).1 (tl k).2.1 (tl k).2.2 cOT)
 have HD := hid (has_any (kw k) (tl k).1 (tl k).2.1 (tl k).2.2 cDA)
 rw [show Lib.containsS [kw k, (tl k).1, (tl k).2.1, (tl k).2.2] cNM = uN k from e1] at HN
 rw [show Lib.containsS [kw k, (tl k).1, (tl k).2.1, (tl k).2.2] cOT = uO k from e2] at HO
 rw [show Lib.containsS [kw k, (tl k).1, (tl k).2.1, (tl k).2.2] cDA = uD k from e5] at HD
 have I1 := hid (IsName_s nm hnm)
 have I2 := hid (IsName_s ot hot)
 have H36 := hid (fun W0 => size_any k nm ot fr to a n c W0)
 have H37 := hid (fun W0 => range_any k nm ot fr to a n c W0 hf ht)
 have hC : ckO k nm ot fr to n = if isF k nm ot fr to n = false then 101 else if (uN k && !nmB nm) = true then 102 else if (uO k && !nmB ot) = true then 102
   else if (uD k && (n : Int) != 512) = true then 103 else if szB k to = false then 106 else if rgB k fr to = false then 107 else 0 := by
  unfold ckO
  rw [if_neg (by omega)]
  rfl
 rw [hC]
 have HW := hid hW
 clear hC hW zW b1 e1 e2 e3 e4 e5 h1 h2 hG hnm hot hf ht
 change Hid (∀ W0, Calls Tryz.prog 119 _ W0 fun e w' => e = .returned (.bool (isF k nm ot fr to n)) ∧ _) at H33
 generalize isF k nm ot fr to n = bF at *
 generalize uN k = bN at *
 generalize uO k = bO at *
 generalize uD k = bD at *
 generalize nmB nm = n1 at *
 generalize nmB ot = n2 at *
 generalize szB k to = bS at *
 generalize rgB k fr to = bR at *
 generalize kw k = f0 at *
 generalize (tl k).1 = f1 at *
 generalize (tl k).2.1 = f2 at *
 generalize (tl k).2.2 = f3 at *
 go_enter Tryz.func102, Tryz.ntmps102
 go_wp2_with fail
 rw [← HW.out]
 refine Calls.mono H32.out ?_
 rintro e w1 ⟨rfl, hS⟩
 clear H32 HW
 have HS := hid hS
 obtain ⟨o0, o1, o2, o3, o4, o5, g0, g1, g2, g3, _, _, _⟩ := hS
 go_wp2_with fail
 refine (H33.out _).mono ?_
 rintro e w2 ⟨rfl, hb⟩
 replace HS := hid (HS.out.step hb)
 clear hb o0 o1 o2 o3 o4 o5 g0 g1 g2 g3
 generalize w1.heap.size = F at *
 cases bF with
 | false =>
  have HE := hid HS.out.bel
  clear HS
  go_wp2
  go_ret
  exact ⟨rfl, HE.out⟩
 | true =>
 obtain ⟨o0, o1, o2, o3, o4, o5, g0, g1, g2, g3, _, _, _⟩ := HS.out
 go_wp2_with fail
 refine (HN.out _).mono ?_
 rintro e w9 ⟨rfl, hb⟩
 replace HS := hid (HS.out.step (hb ▸ below1 _ _))
 clear hb
 clear o0 o1 o2 o3 o4 o5 g0 g1 g2 g3
 cases bN with
 | true =>
  obtain ⟨o0, o1, o2, o3, o4, o5, g0, g1, g2, g3, _, _, _⟩ := HS.out
  go_wp2_with fail
  refine (I1.out _).mono ?_
  rintro e w9 ⟨rfl, hb⟩
  subst hb
  clear o0 o1 o2 o3 o4 o5 g0 g1 g2 g3
  cases n1 with
  | false =>
   have HE := hid HS.out.bel
   clear HS
   go_wp2
   go_ret
   exact ⟨by first | rfl | (simp [*]; done), HE.out⟩
  | true =>
   obtain ⟨o0, o1, o2, o3, o4, o5, g0, g1, g2, g3, _, _, _⟩ := HS.out
   go_wp2_with fail
   refine (HO.out _).mono ?_
   rintro e w9 ⟨rfl, hb⟩
   replace HS := hid (HS.out.step (hb ▸ below1 _ _))
   clear hb
   clear o0 o1 o2 o3 o4 o5 g0 g1 g2 g3
   cases bO with
   | true =>
    obtain ⟨o0, o1, o2, o3, o4, o5, g0, g1, g2, g3, _, _, _⟩ := HS.out
    go_wp2_with fail
    refine (I2.out _).mono ?_
    rintro e w9 ⟨rfl, hb⟩
    subst hb
    clear o0 o1 o2 o3 o4 o5 g0 g1 g2 g3
    cases n2 with
    | false =>
     have HE := hid HS.out.bel
     clear HS
     go_wp2
     go_ret
     exact ⟨by first | rfl | (simp [*]; done), HE.out⟩
    | true =>
     obtain ⟨o0, o1, o2, o3, o4, o5, g0, g1, g2, g3, _, _, _⟩ := HS.out
     go_wp2_with fail
     refine (HD.out _).mono ?_
     rintro e w9 ⟨rfl, hb⟩
     replace HS := hid (HS.out.step (hb ▸ below1 _ _))
     clear hb
     clear o0 o1 o2 o3 o4 o5 g0 g1 g2 g3
     cases bD with
     | true =>
      by_cases hn : (n : Int) = 512
      ·have q : ((n : Int) != 512) = false := by simp [hn]
       clear hn
       obtain ⟨o0, o1, o2, o3, o4, o5, g0, g1, g2, g3, _, _, _⟩ := HS.out
       go_wp2_with fail
       refine (H36.out _).mono ?_
       rintro e w9 ⟨rfl, hb⟩
       replace HS := hid (HS.out.step hb)
       clear hb
       clear o0 o1 o2 o3 o4 o5 g0 g1 g2 g3
       cases bS with
       | false =>
        have HE := hid HS.out.bel
        clear HS
        go_wp2
        go_ret
        exact ⟨by first | rfl | (simp [*]; done), HE.out⟩
       | true =>
        obtain ⟨o0, o1, o2, o3, o4, o5, g0, g1, g2, g3, _, _, _⟩ := HS.out
        go_wp2_with fail
        refine (H37.out _).mono ?_
        rintro e w9 ⟨rfl, hb⟩
        replace HS := hid (HS.out.step hb)
        clear hb
        clear o0 o1 o2 o3 o4 o5 g0 g1 g2 g3
        cases bR with
        | false =>
         have HE := hid HS.out.bel
         clear HS
         go_wp2
         go_ret
         exact ⟨by first | rfl | (simp [*]; done), HE.out⟩
        | true =>
         have HE := hid HS.out.bel
         clear HS
         go_wp2
         go_ret
         exact ⟨by first | rfl | (simp [*]; done), HE.out⟩
      ·have q : ((n : Int) != 512) = true := by simp [hn]
       clear hn
       obtain ⟨o0, o1, o2, o3, o4, o5, g0, g1, g2, g3, _, _, _⟩ := HS.out
       have HE := hid HS.out.bel
       clear HS
       go_wp2
       go_ret
       exact ⟨by first | rfl | (simp [*]; done), HE.out⟩
     | false =>
      obtain ⟨o0, o1, o2, o3, o4, o5, g0, g1, g2, g3, _, _, _⟩ := HS.out
      go_wp2_with fail
      refine (H36.out _).mono ?_
      rintro e w9 ⟨rfl, hb⟩
      replace HS := hid (HS.out.step hb)
      clear hb
      clear o0 o1 o2 o3 o4 o5 g0 g1 g2 g3
      cases bS with
      | false =>
       have HE := hid HS.out.bel
       clear HS
       go_wp2
       go_ret
       exact ⟨by first | rfl | (simp [*]; done), HE.out⟩
      | true =>
       obtain ⟨o0, o1, o2, o3, o4, o5, g0, g1, g2, g3, _, _, _⟩ := HS.out
       go_wp2_with fail
       refine (H37.out _).mono ?_
       rintro e w9 ⟨rfl, hb⟩
       replace HS := hid (HS.out.step hb)
       clear hb
       clear o0 o1 o2 o3 o4 o5 g0 g1 g2 g3
       cases bR with
       | false =>
        have HE := hid HS.out.bel
        clear HS
        go_wp2
        go_ret
        exact ⟨by first | rfl | (simp [*]; done), HE.out⟩
       | true =>
        have HE := hid HS.out.bel
        clear HS
        go_wp2
        go_ret
        exact ⟨by first | rfl | (simp [*]; done), HE.out⟩
   | false =>
    obtain ⟨o0, o1, o2, o3, o4, o5, g0, g1, g2, g3, _, _, _⟩ := HS.out
    go_wp2_with fail
    refine (HD.out _).mono ?_
    rintro e w9 ⟨rfl, hb⟩
    replace HS := hid (HS.out.step (hb ▸ below1 _ _))
    clear hb
    clear o0 o1 o2 o3 o4 o5 g0 g1 g2 g3
    cases bD with
    | true =>
     by_cases hn : (n : Int) = 512
     ·have q : ((n : Int) != 512) = false := by simp [hn]
      clear hn
      obtain ⟨o0, o1, o2, o3, o4, o5, g0, g1, g2, g3, _, _, _⟩ := HS.out
      go_wp2_with fail
      refine (H36.out _).mono ?_
      rintro e w9 ⟨rfl, hb⟩
      replace HS := hid (HS.out.step hb)
      clear hb
      clear o0 o1 o2 o3 o4 o5 g0 g1 g2 g3
      cases bS with
      | false =>
       have HE := hid HS.out.bel
       clear HS
       go_wp2
       go_ret
       exact ⟨by first | rfl | (simp [*]; done), HE.out⟩
      | true =>
       obtain ⟨o0, o1, o2, o3, o4, o5, g0, g1, g2, g3, _, _, _⟩ := HS.out
       go_wp2_with fail
       refine (H37.out _).mono ?_
       rintro e w9 ⟨rfl, hb⟩
       replace HS := hid (HS.out.step hb)
       clear hb
       clear o0 o1 o2 o3 o4 o5 g0 g1 g2 g3
       cases bR with
       | false =>
        have HE := hid HS.out.bel
        clear HS
        go_wp2
        go_ret
        exact ⟨by first | rfl | (simp [*]; done), HE.out⟩
       | true =>
        have HE := hid HS.out.bel
        clear HS
        go_wp2
        go_ret
        exact ⟨by first | rfl | (simp [*]; done), HE.out⟩
     ·have q : ((n : Int) != 512) = true := by simp [hn]
      clear hn
      obtain ⟨o0, o1, o2, o3, o4, o5, g0, g1, g2, g3, _, _, _⟩ := HS.out
      have HE := hid HS.out.bel
      clear HS
      go_wp2
      go_ret
      exact ⟨by first | rfl | (simp [*]; done), HE.out⟩
    | false =>
     obtain ⟨o0, o1, o2, o3, o4, o5, g0, g1, g2, g3, _, _, _⟩ := HS.out
     go_wp2_with fail
     refine (H36.out _).mono ?_
     rintro e w9 ⟨rfl, hb⟩
     replace HS := hid (HS.out.step hb)
     clear hb
     clear o0 o1 o2 o3 o4 o5 g0 g1 g2 g3
     cases bS with
     | false =>
      have HE := hid HS.out.bel
      clear HS
      go_wp2
      go_ret
      exact ⟨by first | rfl | (simp [*]; done), HE.out⟩
     | true =>
      obtain ⟨o0, o1, o2, o3, o4, o5, g0, g1, g2, g3, _, _, _⟩ := HS.out
      go_wp2_with fail
      refine (H37.out _).mono ?_
      rintro e w9 ⟨rfl, hb⟩
      replace HS := hid (HS.out.step hb)
      clear hb
      clear o0 o1 o2 o3 o4 o5 g0 g1 g2 g3
      cases bR with
      | false =>
       have HE := hid HS.out.bel
       clear HS
       go_wp2
       go_ret
       exact ⟨by first | rfl | (simp [*]; done), HE.out⟩
      | true =>
       have HE := hid HS.out.bel
       clear HS
       go_wp2
       go_ret
       exact ⟨by first | rfl | (simp [*]; done), HE.out⟩
 | false =>
  obtain ⟨o0, o1, o2, o3, o4, o5, g0, g1, g2, g3, _, _, _⟩ := HS.out
  go_wp2_with fail
  refine (HO.out _).mono ?_
  rintro e w9 ⟨rfl, hb⟩
  replace HS := hid (HS.out.step (hb ▸ below1 _ _))
  clear hb
  clear o0 o1 o2 o3 o4 o5 g0 g1 g2 g3
  cases bO with
  | true =>
   obtain ⟨o0, o1, o2, o3, o4, o5, g0, g1, g2, g3, _, _, _⟩ := HS.out
   go_wp2_with fail
   refine (I2.out _).mono ?_
   rintro e w9 ⟨rfl, hb⟩
   subst hb
   clear o0 o1 o2 o3 o4 o5 g0 g1 g2 g3
   cases n2 with
   | false =>
    have HE := hid HS.out.bel
    clear HS
    go_wp2
    go_ret
    exact ⟨by first | rfl | (simp [*]; done), HE.out⟩
   | true =>
    obtain ⟨o0, o1, o2, o3, o4, o5, g0, g1, g2, g3, _, _, _⟩ := HS.out
    go_wp2_with fail
    refine (HD.out _).mono ?_
    rintro e w9 ⟨rfl, hb⟩
    replace HS := hid (HS.out.step (hb ▸ below1 _ _))
    clear hb
    clear o0 o1 o2 o3 o4 o5 g0 g1 g2 g3
    cases bD with
    | true =>
     by_cases hn : (n : Int) = 512
     ·have q : ((n : Int) != 512) = false := by simp [hn]
      clear hn
      obtain ⟨o0, o1, o2, o3, o4, o5, g0, g1, g2, g3, _, _, _⟩ := HS.out
      go_wp2_with fail
      refine (H36.out _).mono ?_
      rintro e w9 ⟨rfl, hb⟩
      replace HS := hid (HS.out.step hb)
      clear hb
      clear o0 o1 o2 o3 o4 o5 g0 g1 g2 g3
      cases bS with
      | false =>
       have HE := hid HS.out.bel
       clear HS
       go_wp2
       go_ret
       exact ⟨by first | rfl | (simp [*]; done), HE.out⟩
      | true =>
       obtain ⟨o0, o1, o2, o3, o4, o5, g0, g1, g2, g3, _, _, _⟩ := HS.out
       go_wp2_with fail
       refine (H37.out _).mono ?_
       rintro e w9 ⟨rfl, hb⟩
       replace HS := hid (HS.out.step hb)
       clear hb
       clear o0 o1 o2 o3 o4 o5 g0 g1 g2 g3
       cases bR with
       | false =>
        have HE := hid HS.out.bel
        clear HS
        go_wp2
        go_ret
        exact ⟨by first | rfl | (simp [*]; done), HE.out⟩
       | true =>
        have HE := hid HS.out.bel
        clear HS
        go_wp2
        go_ret
        exact ⟨by first | rfl | (simp [*]; done), HE.out⟩
     ·have q : ((n : Int) != 512) = true := by simp [hn]
      clear hn
      obtain ⟨o0, o1, o2, o3, o4, o5, g0, g1, g2, g3, _, _, _⟩ := HS.out
      have HE := hid HS.out.bel
      clear HS
      go_wp2
      go_ret
      exact ⟨by first | rfl | (simp [*]; done), HE.out⟩
    | false =>
     obtain ⟨o0, o1, o2, o3, o4, o5, g0, g1, g2, g3, _, _, _⟩ := HS.out
     go_wp2_with fail
     refine (H36.out _).mono ?_
     rintro e w9 ⟨rfl, hb⟩
     replace HS := hid (HS.out.step hb)
     clear hb
     clear o0 o1 o2 o3 o4 o5 g0 g1 g2 g3
     cases bS with
     | false =>
      have HE := hid HS.out.bel
      clear HS
      go_wp2
      go_ret
      exact ⟨by first | rfl | (simp [*]; done), HE.out⟩
     | true =>
      obtain ⟨o0, o1, o2, o3, o4, o5, g0, g1, g2, g3, _, _, _⟩ := HS.out
      go_wp2_with fail
      refine (H37.out _).mono ?_
      rintro e w9 ⟨rfl, hb⟩
      replace HS := hid (HS.out.step hb)
      clear hb
      clear o0 o1 o2 o3 o4 o5 g0 g1 g2 g3
      cases bR with
      | false =>
       have HE := hid HS.out.bel
       clear HS
       go_wp2
       go_ret
       exact ⟨by first | rfl | (simp [*]; done), HE.out⟩
      | true =>
       have HE := hid HS.out.bel
       clear HS
       go_wp2
       go_ret
       exact ⟨by first | rfl | (simp [*]; done), HE.out⟩
  | false =>
   obtain ⟨o0, o1, o2, o3, o4, o5, g0, g1, g2, g3, _, _, _⟩ := HS.out
   go_wp2_with fail
   refine (HD.out _).mono ?_
   rintro e w9 ⟨rfl, hb⟩
   replace HS := hid (HS.out.step (hb ▸ below1 _ _))
   clear hb
   clear o0 o1 o2 o3 o4 o5 g0 g1 g2 g3
   cases bD with
   | true =>
    by_cases hn : (n : Int) = 512
    ·have q : ((n : Int) != 512) = false := by simp [hn]
     clear hn
     obtain ⟨o0, o1, o2, o3, o4, o5, g0, g1, g2, g3, _, _, _⟩ := HS.out
     go_wp2_with fail
     refine (H36.out _).mono ?_
     rintro e w9 ⟨rfl, hb⟩
     replace HS := hid (HS.out.step hb)
     clear hb
     clear o0 o1 o2 o3 o4 o5 g0 g1 g2 g3
     cases bS with
     | false =>
      have HE := hid HS.out.bel
      clear HS
      go_wp2
      go_ret
      exact ⟨by first | rfl | (simp [*]; done), HE.out⟩
     | true =>
      obtain ⟨o0, o1, o2, o3, o4, o5, g0, g1, g2, g3, _, _, _⟩ := HS.out
      go_wp2_with fail
      refine (H37.out _).mono ?_
      rintro e w9 ⟨rfl, hb⟩
      replace HS := hid (HS.out.step hb)
      clear hb
      clear o0 o1 o2 o3 o4 o5 g0 g1 g2 g3
      cases bR with
      | false =>
       have HE := hid HS.out.bel
       clear HS
       go_wp2
       go_ret
       exact ⟨by first | rfl | (simp [*]; done), HE.out⟩
      | true =>
       have HE := hid HS.out.bel
       clear HS
       go_wp2
       go_ret
       exact ⟨by first | rfl | (simp [*]; done), HE.out⟩
    ·have q : ((n : Int) != 512) = true := by simp [hn]
     clear hn
     obtain ⟨o0, o1, o2, o3, o4, o5, g0, g1, g2, g3, _, _, _⟩ := HS.out
     have HE := hid HS.out.bel
     clear HS
     go_wp2
     go_ret
     exact ⟨by first | rfl | (simp [*]; done), HE.out⟩
   | false =>
    obtain ⟨o0, o1, o2, o3, o4, o5, g0, g1, g2, g3, _, _, _⟩ := HS.out
    go_wp2_with fail
    refine (H36.out _).mono ?_
    rintro e w9 ⟨rfl, hb⟩
    replace HS := hid (HS.out.step hb)
    clear hb
    clear o0 o1 o2 o3 o4 o5 g0 g1 g2 g3
    cases bS with
    | false =>
     have HE := hid HS.out.bel
     clear HS
     go_wp2
     go_ret
     exact ⟨by first | rfl | (simp [*]; done), HE.out⟩
    | true =>
     obtain ⟨o0, o1, o2, o3, o4, o5, g0, g1, g2, g3, _, _, _⟩ := HS.out
     go_wp2_with fail
     refine (H37.out _).mono ?_
     rintro e w9 ⟨rfl, hb⟩
     replace HS := hid (HS.out.step hb)
     clear hb
     clear o0 o1 o2 o3 o4 o5 g0 g1 g2 g3
     cases bR with
     | false =>
      have HE := hid HS.out.bel
      clear HS
      go_wp2
      go_ret
      exact ⟨by first | rfl | (simp [*]; done), HE.out⟩
     | true =>
      have HE := hid HS.out.bel
      clear HS
      go_wp2
      go_ret
      exact ⟨by first | rfl | (simp [*]; done), HE.out⟩
theorem Check_any (k : Int) (nm ot : ByteArray) (fr to : Int) (a : Option Addr) (n c : Nat) (w : World) (hG : GT w) (hnm : nm.size ≤ 16777216) (hot : ot.size ≤ 16777216) (hf : -9223372036854775808 ≤ fr) (ht : to ≤ 9223372036854775807) :
  Calls Tryz.prog 102 #[opV k nm ot fr to a n c] w fun e w' => e = .returned (.int .i64 (ckO k nm ot fr to n)) ∧ Below w.heap.size w w' := by
 by_cases h : k < 1 ∨ 11 < k
 ·have e : ckO k nm ot fr to n = 100 := by unfold ckO; rw [if_pos h]
  rw [e]
  exact Check_no k h nm ot fr to a n c w
 ·obtain ⟨m, rfl⟩ := Int.eq_ofNat_of_zero_le (show 0 ≤ k by omega)
  exact Check_yes m (by omega) (by omega) nm ot fr to a n c w hG hnm hot hf ht
end Go.Proofs.YtddddfankeepkaaGreatDoor
