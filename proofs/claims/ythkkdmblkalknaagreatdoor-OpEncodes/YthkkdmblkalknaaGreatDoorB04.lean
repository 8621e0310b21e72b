import Derived.Test.YthkkdmblkalknaaGreatDoorA08
import Derived.Test.YthkkdmblkalknaaGreatDoorB03
/-
  The document's Uses, uses, Formed.
-/
namespace Go.Proofs.YthkkdmblkalknaaGreatDoor
open Go.RowKit

/-- which fields a kind uses -/
def usL (k : Int) : List Int :=
  if k < 1 ∨ 11 < k then [] else if k = 1 then [78, 84] else if k = 2 then [78, 79] else if k = 3 then [78, 79] else if k = 4 then [78, 84] else if k = 5 then [78, 79] else if k = 6 then [78] else if k = 7 then [78, 79] else if k = 8 then [78, 70, 68] else if k = 9 then [78, 70, 84] else if k = 10 then [78, 70, 84] else [84]
theorem under176 : Tryz.prog.underlying 176 = some (.array 12 9) := by kernel_rfl
theorem idx176 (cs : Array Value) (i : Int) (h0 : 0 ≤ i) (h1 : i < 12) (s : ByteArray) (hv : cs[i.toNat]? = some (.string s)) (W : World) : (Instr.index 176 (.agg cs) (.int .i64 i)).run Tryz.prog W = .ok (.string s) W := by
  have hc : (0 ≤ i ∧ i < (12 : Nat)) := ⟨h0, h1⟩
  simp [Instr.index, run_underlying under176, asIntOf, hc, go_sem, part, isAgg, run_underlying Tryz.underlying9]
  rw [if_pos h1, hv]
  rfl
set_option maxRecDepth 100000 in
set_option maxHeartbeats 4000000 in
theorem Uses_any (k : Int) (w : World) : Calls Tryz.prog 119 #[.int .i64 k] w fun e w' => e = .returned (.string (strOfNums (usL k))) ∧ w' = w := by
  by_cases h : k < 1 ∨ 11 < k
  · have e : usL k = [] := if_pos h
    rw [e]
    by_cases h1 : k < 1
    · go_enter Tryz.func119, Tryz.ntmps119
      go_wp2
      go_ret
      exact ⟨rfl, rfl⟩
    · have h2 : 11 < k := by omega
      go_enter Tryz.func119, Tryz.ntmps119
      go_wp2
      go_ret
      exact ⟨rfl, rfl⟩
  · rcases kinds (k := k) (by omega) (by omega) with rfl | rfl | rfl | rfl | rfl | rfl | rfl | rfl | rfl | rfl | rfl
    · have hidx := idx176 #[.string ⟨#[]⟩, .string ⟨#[78, 84]⟩, .string ⟨#[78, 79]⟩, .string ⟨#[78, 79]⟩, .string ⟨#[78, 84]⟩, .string ⟨#[78, 79]⟩, .string ⟨#[78]⟩, .string ⟨#[78, 79]⟩, .string ⟨#[78, 70, 68]⟩, .string ⟨#[78, 70, 84]⟩, .string ⟨#[78, 70, 84]⟩, .string ⟨#[84]⟩] 1 (by decide) (by decide) ⟨#[78, 84]⟩ rfl w
      go_enter Tryz.func119, Tryz.ntmps119
      go_wp2_with fail
      go_ret
      exact ⟨by kernel_rfl, rfl⟩
    · have hidx := idx176 #[.string ⟨#[]⟩, .string ⟨#[78, 84]⟩, .string ⟨#[78, 79]⟩, .string ⟨#[78, 79]⟩, .string ⟨#[78, 84]⟩, .string ⟨#[78, 79]⟩, .string ⟨#[78]⟩, .string ⟨#[78, 79]⟩, .string ⟨#[78, 70, 68]⟩, .string ⟨#[78, 70, 84]⟩, .string ⟨#[78, 70, 84]⟩, .string ⟨#[84]⟩] 2 (by decide) (by decide) ⟨#[78, 79]⟩ rfl w
      go_enter Tryz.func119, Tryz.ntmps119
      go_wp2_with fail
      go_ret
      exact ⟨by kernel_rfl, rfl⟩
    · have hidx := idx176 #[.string ⟨#[]⟩, .string ⟨#[78, 84]⟩, .string ⟨#[78, 79]⟩, .string ⟨#[78, 79]⟩, .string ⟨#[78, 84]⟩, .string ⟨#[78, 79]⟩, .string ⟨#[78]⟩, .string ⟨#[78, 79]⟩, .string ⟨#[78, 70, 68]⟩, .string ⟨#[78, 70, 84]⟩, .string ⟨#[78, 70, 84]⟩, .string ⟨#[84]⟩] 3 (by decide) (by decide) ⟨#[78, 79]⟩ rfl w
      go_enter Tryz.func119, Tryz.ntmps119
      go_wp2_with fail
      go_ret
      exact ⟨by kernel_rfl, rfl⟩
    · have hidx := idx176 #[.string ⟨#[]⟩, .string ⟨#[78, 84]⟩, .string ⟨#[78, 79]⟩, .string ⟨#[78, 79]⟩, .string ⟨#[78, 84]⟩, .string ⟨#[78, 79]⟩, .string ⟨#[78]⟩, .string ⟨#[78, 79]⟩, .string ⟨#[78, 70, 68]⟩, .string ⟨#[78, 70, 84]⟩, .string ⟨#[78, 70, 84]⟩, .string ⟨#[84]⟩] 4 (by decide) (by decide) ⟨#[78, 84]⟩ rfl w
      go_enter Tryz.func119, Tryz.ntmps119
      go_wp2_with fail
      go_ret
      exact ⟨by kernel_rfl, rfl⟩
    · have hidx := idx176 #[.string ⟨#[]⟩, .string ⟨#[78, 84]⟩, .string ⟨#[78, 79]⟩, .string ⟨#[78, 79]⟩, .string ⟨#[78, 84]⟩, .string ⟨#[78, 79]⟩, .string ⟨#[78]⟩, .string ⟨#[78, 79]⟩, .string ⟨#[78, 70, 68]⟩, .string ⟨#[78, 70, 84]⟩, .string ⟨#[78, 70, 84]⟩, .string ⟨#[84]⟩] 5 (by decide) (by decide) ⟨#[78, 79]⟩ rfl w
      go_enter Tryz.func119, Tryz.ntmps119
      go_wp2_with fail
      go_ret
      exact ⟨by kernel_rfl, rfl⟩
    · have hidx := idx176 #[.string ⟨#[]⟩, .string ⟨#[78, 84]⟩, .string ⟨#[78, 79]⟩, .string ⟨#[78, 79]⟩, .string ⟨#[78, 84]⟩, .string ⟨#[78, 79]⟩, .string ⟨#[78]⟩, .string ⟨#[78, 79]⟩, .string ⟨#[78, 70, 68]⟩, .string ⟨#[78, 70, 84]⟩, .string ⟨#[78, 70, 84]⟩, .string ⟨#[84]⟩] 6 (by decide) (by decide) ⟨#[78]⟩ rfl w
      go_enter Tryz.func119, Tryz.ntmps119
      go_wp2_with fail
      go_ret
      exact ⟨by kernel_rfl, rfl⟩
    · have hidx := idx176 #[.string ⟨#[]⟩, .string ⟨#[78, 84]⟩, .string ⟨#[78, 79]⟩, .string ⟨#[78, 79]⟩, .string ⟨#[78, 84]⟩, .string ⟨#[78, 79]⟩, .string ⟨#[78]⟩, .string ⟨#[78, 79]⟩, .string ⟨#[78, 70, 68]⟩, .string ⟨#[78, 70, 84]⟩, .string ⟨#[78, 70, 84]⟩, .string ⟨#[84]⟩] 7 (by decide) (by decide) ⟨#[78, 79]⟩ rfl w
      go_enter Tryz.func119, Tryz.ntmps119
      go_wp2_with fail
      go_ret
      exact ⟨by kernel_rfl, rfl⟩
    · have hidx := idx176 #[.string ⟨#[]⟩, .string ⟨#[78, 84]⟩, .string ⟨#[78, 79]⟩, .string ⟨#[78, 79]⟩, .string ⟨#[78, 84]⟩, .string ⟨#[78, 79]⟩, .string ⟨#[78]⟩, .string ⟨#[78, 79]⟩, .string ⟨#[78, 70, 68]⟩, .string ⟨#[78, 70, 84]⟩, .string ⟨#[78, 70, 84]⟩, .string ⟨#[84]⟩] 8 (by decide) (by decide) ⟨#[78, 70, 68]⟩ rfl w
      go_enter Tryz.func119, Tryz.ntmps119
      go_wp2_with fail
      go_ret
      exact ⟨by kernel_rfl, rfl⟩
    · have hidx := idx176 #[.string ⟨#[]⟩, .string ⟨#[78, 84]⟩, .string ⟨#[78, 79]⟩, .string ⟨#[78, 79]⟩, .string ⟨#[78, 84]⟩, .string ⟨#[78, 79]⟩, .string ⟨#[78]⟩, .string ⟨#[78, 79]⟩, .string ⟨#[78, 70, 68]⟩, .string ⟨#[78, 70, 84]⟩, .string ⟨#[78, 70, 84]⟩, .string ⟨#[84]⟩] 9 (by decide) (by decide) ⟨#[78, 70, 84]⟩ rfl w
      go_enter Tryz.func119, Tryz.ntmps119
      go_wp2_with fail
      go_ret
      exact ⟨by kernel_rfl, rfl⟩
    · have hidx := idx176 #[.string ⟨#[]⟩, .string ⟨#[78, 84]⟩, .string ⟨#[78, 79]⟩, .string ⟨#[78, 79]⟩, .string ⟨#[78, 84]⟩, .string ⟨#[78, 79]⟩, .string ⟨#[78]⟩, .string ⟨#[78, 79]⟩, .string ⟨#[78, 70, 68]⟩, .string ⟨#[78, 70, 84]⟩, .string ⟨#[78, 70, 84]⟩, .string ⟨#[84]⟩] 10 (by decide) (by decide) ⟨#[78, 70, 84]⟩ rfl w
      go_enter Tryz.func119, Tryz.ntmps119
      go_wp2_with fail
      go_ret
      exact ⟨by kernel_rfl, rfl⟩
    · have hidx := idx176 #[.string ⟨#[]⟩, .string ⟨#[78, 84]⟩, .string ⟨#[78, 79]⟩, .string ⟨#[78, 79]⟩, .string ⟨#[78, 84]⟩, .string ⟨#[78, 79]⟩, .string ⟨#[78]⟩, .string ⟨#[78, 79]⟩, .string ⟨#[78, 70, 68]⟩, .string ⟨#[78, 70, 84]⟩, .string ⟨#[78, 70, 84]⟩, .string ⟨#[84]⟩] 11 (by decide) (by decide) ⟨#[84]⟩ rfl w
      go_enter Tryz.func119, Tryz.ntmps119
      go_wp2_with fail
      go_ret
      exact ⟨by kernel_rfl, rfl⟩
theorem usL_isB (k : Int) : Pl.isB (usL k) := by
  unfold usL
  repeat' split
  all_goals (intro z hz; simp only [List.mem_cons, List.not_mem_nil, or_false] at hz <;> omega)
theorem usL_len (k : Int) : (usL k).length ≤ 3 := by
  unfold usL
  repeat' split
  all_goals decide
set_option maxRecDepth 100000 in
set_option maxHeartbeats 4000000 in
theorem uses_any (k f : Int) (w : World) : Calls Tryz.prog 111 #[.int .i64 k, .int .u8 f] w fun e w' => e = .returned (.bool ((usL k).contains f)) ∧ w' = w := by
  have HU := hid (Uses_any k w)
  have hlen := usL_len k
  have hb := usL_isB k
  generalize usL k = l at *
  have hsz := str_size l
  have HX := hid (fun i hi h => str_get l hb i hi h)
  obtain ⟨Bc, hBc⟩ : ∃ Bc, Bc = l.contains f := ⟨_, rfl⟩
  rw [← hBc]
  have HBc := hid hBc
  clear hBc
  generalize hS : strOfNums l = S at *
  clear hS hb
  go_enter Tryz.func111, Tryz.ntmps111
  go_wp2_with fail
  refine HU.out.mono ?_
  rintro e w1 ⟨rfl, hw1⟩
  rw [hw1]
  clear hw1 HU
  go_wp2_with fail
  go_loop [6] (fun i => ∃ m : Nat, m ≤ l.length ∧ i = .int .i64 (m : Int) ∧ (∀ j, j < m → l.getD j 0 ≠ f)) (fun i => l.length - (intOf i).toNat)
  case atStart => exact ⟨0, Nat.zero_le _, rfl, fun j hj => by omega⟩
  case round =>
    obtain ⟨m, hm, rfl, hall⟩ := hrel
    by_cases hmn : m < l.length
    · have hix := HX.out m hmn (by omega)
      have HA := hid hall
      by_cases hz : l.getD m 0 = f
      · have HR : Hid (l.contains f = true) := by
          show l.contains f = true
          rw [List.contains_iff_mem, ← hz, List.getD_eq_getElem?_getD, List.getElem?_eq_getElem hmn]
          exact List.getElem_mem hmn
        rw [hz] at hix
        clear hall hz
        go_wp2
        go_ret
        exact ⟨by rw [HBc.out, HR.out]; rfl, rfl⟩
      · have HZ := hid hz
        generalize hzz : l.getD m 0 = z at *
        have HZZ := hid hzz
        clear hzz
        have hq : (z == f) = false := by simpa using hz
        clear hall hz
        go_wp2
        go_round
        case rel => exact ⟨m + 1, by omega, by go_num, fun j hj => by
          by_cases e : j < m
          · exact HA.out j e
          · obtain rfl : j = m := by omega
            rw [HZZ.out]
            exact HZ.out⟩
        case measure => simp [intOf]; omega
    · have HR : Hid (l.contains f = false) := by
        show l.contains f = false
        rw [Bool.eq_false_iff, Ne, List.contains_iff_mem]
        intro hmem
        obtain ⟨i, hi, e⟩ := List.getElem_of_mem hmem
        refine hall i (by omega) ?_
        rw [List.getD_eq_getElem?_getD, List.getElem?_eq_getElem hi]
        exact e
      clear hall
      go_wp2
      go_ret
      exact ⟨by rw [HBc.out, HR.out]; rfl, rfl⟩

end Go.Proofs.YthkkdmblkalknaaGreatDoor
/-
  The document's Formed, Check.
-/
namespace Go.Proofs.YthkkdmblkalknaaGreatDoor
open Go.RowKit

theorem us_eq {k : Nat} (h1 : 1 ≤ k) (h2 : k ≤ 11) : ((usL k).contains 78 = uN k ∧ (usL k).contains 79 = uO k ∧ (usL k).contains 70 = uF k ∧ (usL k).contains 84 = uT k ∧ (usL k).contains 68 = uD k) ∧ (((k : Int) == 8) = uD k) := by
  rcases nat_kinds h1 h2 with rfl | rfl | rfl | rfl | rfl | rfl | rfl | rfl | rfl | rfl | rfl <;> decide
/-- the first errors -/
def fm5 (b1 b2 b3 b4 b5 : Bool) (nm ot : ByteArray) (fr to : Int) (n : Nat) (x1 x2 : Bool) : Int := if isF5 b1 b2 b3 b4 b5 nm ot fr to n = false then 101 else if (b1 && !x1) = true then 102 else if (b2 && !x2) = true then 102 else if (b5 && (n : Int) != 512) = true then 103 else 0
theorem Named_s (s : ByteArray) (hs : s.size ≤ 16777216) (w : World) : Calls Tryz.prog 112 #[.string s] w fun e w' => e = .returned (.bool (nmB s)) ∧ w' = w := by
  have h := Named_any (nums s) (isB_nums s) (by rw [length_nums]; exact hs) w
  rw [str_nums] at h
  exact h
set_option maxRecDepth 100000 in
set_option maxHeartbeats 8000000 in
theorem formed_walk (k : Int) (h1 : ¬ k < 1) (h2 : ¬ 11 < k) (nm ot : ByteArray) (fr to : Int) (a : Option Addr) (n c : Nat) (w : World) (b1 b2 b3 b4 b5 x1 x2 : Bool) (hk : (k == 8) = b5)
    (H : Hid ((∀ w, Calls Tryz.prog 111 #[.int .i64 k, .int .u8 78] w fun e w' => e = .returned (.bool b1) ∧ w' = w) ∧ (∀ w, Calls Tryz.prog 111 #[.int .i64 k, .int .u8 79] w fun e w' => e = .returned (.bool b2) ∧ w' = w) ∧ (∀ w, Calls Tryz.prog 111 #[.int .i64 k, .int .u8 70] w fun e w' => e = .returned (.bool b3) ∧ w' = w) ∧ (∀ w, Calls Tryz.prog 111 #[.int .i64 k, .int .u8 84] w fun e w' => e = .returned (.bool b4) ∧ w' = w) ∧ (∀ w, Calls Tryz.prog 111 #[.int .i64 k, .int .u8 68] w fun e w' => e = .returned (.bool b5) ∧ w' = w) ∧ (∀ w, Calls Tryz.prog 112 #[.string nm] w fun e w' => e = .returned (.bool x1) ∧ w' = w) ∧ (∀ w, Calls Tryz.prog 112 #[.string ot] w fun e w' => e = .returned (.bool x2) ∧ w' = w)))
    (hb : (b1, b2, b3, b4, b5) ∈ [(true, false, false, true, false), (true, true, false, false, false), (true, false, false, false, false), (true, false, true, false, true), (true, false, true, true, false), (false, false, false, true, false)]) :
    Calls Tryz.prog 83 #[opV k nm ot fr to a n c] w fun e w' => e = .returned (.int .i64 (fm5 b1 b2 b3 b4 b5 nm ot fr to n x1 x2)) ∧ Below w.heap.size w w' := by
  simp only [List.mem_cons, Prod.mk.injEq, List.not_mem_nil, or_false] at hb
  rcases hb with ⟨rfl, rfl, rfl, rfl, rfl⟩ | ⟨rfl, rfl, rfl, rfl, rfl⟩ | ⟨rfl, rfl, rfl, rfl, rfl⟩ | ⟨rfl, rfl, rfl, rfl, rfl⟩ | ⟨rfl, rfl, rfl, rfl, rfl⟩ | ⟨rfl, rfl, rfl, rfl, rfl⟩
  all_goals
    obtain ⟨m1, m2, m3, m4, m5, m6, m7⟩ := H.out
    have M1 := hid m1
    have M2 := hid m2
    have M3 := hid m3
    have M4 := hid m4
    have M5 := hid m5
    have M6 := hid m6
    have M7 := hid m7
    clear m1 m2 m3 m4 m5 m6 m7 H
    go_enter Tryz.func83, Tryz.ntmps83
    go_wp2_with (first | (go_at_call 111; with_reducible refine (M1.out _).mono ?_; rintro e w' ⟨rfl, rfl⟩) | (go_at_call 111; with_reducible refine (M2.out _).mono ?_; rintro e w' ⟨rfl, rfl⟩) | (go_at_call 111; with_reducible refine (M3.out _).mono ?_; rintro e w' ⟨rfl, rfl⟩) | (go_at_call 111; with_reducible refine (M4.out _).mono ?_; rintro e w' ⟨rfl, rfl⟩) | (go_at_call 111; with_reducible refine (M5.out _).mono ?_; rintro e w' ⟨rfl, rfl⟩) | (go_at_call 112; with_reducible refine (M6.out _).mono ?_; rintro e w' ⟨rfl, rfl⟩) | (go_at_call 112; with_reducible refine (M7.out _).mono ?_; rintro e w' ⟨rfl, rfl⟩))
    all_goals go_ret
    all_goals refine ⟨by simp [fm5, isF5, emp, *] <;> first | omega | (intro h; omega), ?_⟩
    all_goals (repeat first | exact Below.refl _ _ | refine Below.alloc ?_ (by simp <;> omega) _)

set_option maxRecDepth 100000 in
set_option maxHeartbeats 8000000 in
theorem formed_no (k : Int) (h : k < 1 ∨ 11 < k) (nm ot : ByteArray) (fr to : Int) (a : Option Addr) (n c : Nat) (w : World) (H : Hid (∀ f w, Calls Tryz.prog 111 #[.int .i64 k, .int .u8 f] w fun e w' => e = .returned (.bool false) ∧ w' = w)) :
    Calls Tryz.prog 83 #[opV k nm ot fr to a n c] w fun e w' => e = .returned (.int .i64 100) ∧ Below w.heap.size w w' := by
  by_cases h1 : k < 1
  · clear h
    go_enter Tryz.func83, Tryz.ntmps83
    go_wp2_with (go_at_call 111; with_reducible refine (H.out _ _).mono ?_; rintro e w' ⟨rfl, rfl⟩)
    all_goals go_ret
    all_goals refine ⟨rfl, ?_⟩
    all_goals (repeat first | exact Below.refl _ _ | refine Below.alloc ?_ (by simp <;> omega) _)
  · have h2 : 11 < k := by omega
    clear h
    go_enter Tryz.func83, Tryz.ntmps83
    go_wp2_with (go_at_call 111; with_reducible refine (H.out _ _).mono ?_; rintro e w' ⟨rfl, rfl⟩)
    all_goals go_ret
    all_goals refine ⟨rfl, ?_⟩
    all_goals (repeat first | exact Below.refl _ _ | refine Below.alloc ?_ (by simp <;> omega) _)
/-- Formed, in plain words -/
def fmO (k : Int) (nm ot : ByteArray) (fr to : Int) (n : Nat) : Int := if k < 1 ∨ 11 < k then 100 else fm5 (uN k.toNat) (uO k.toNat) (uF k.toNat) (uT k.toNat) (uD k.toNat) nm ot fr to n (nmB nm) (nmB ot)
theorem Formed_any (k : Int) (nm ot : ByteArray) (fr to : Int) (a : Option Addr) (n c : Nat) (w : World) (hnm : nm.size ≤ 16777216) (hot : ot.size ≤ 16777216) :
    Calls Tryz.prog 83 #[opV k nm ot fr to a n c] w fun e w' => e = .returned (.int .i64 (fmO k nm ot fr to n)) ∧ Below w.heap.size w w' := by
  by_cases h : k < 1 ∨ 11 < k
  · have e : fmO k nm ot fr to n = 100 := if_pos h
    rw [e]
    refine formed_no k h nm ot fr to a n c w (hid fun f w => ?_)
    have := uses_any k f w
    rw [show usL k = [] from if_pos h] at this
    exact this
  · obtain ⟨m, rfl⟩ := Int.eq_ofNat_of_zero_le (show 0 ≤ k by omega)
    have e : fmO m nm ot fr to n = fm5 (uN m) (uO m) (uF m) (uT m) (uD m) nm ot fr to n (nmB nm) (nmB ot) := if_neg h
    rw [e]
    obtain ⟨⟨e1, e2, e3, e4, e5⟩, e6⟩ := us_eq (k := m) (by omega) (by omega)
    exact formed_walk m (by omega) (by omega) nm ot fr to a n c w _ _ _ _ _ _ _ e6 (hid ⟨fun w => e1 ▸ uses_any m 78 w, fun w => e2 ▸ uses_any m 79 w, fun w => e3 ▸ uses_any m 70 w, fun w => e4 ▸ uses_any m 84 w, fun w => e5 ▸ uses_any m 68 w, Named_s nm hnm, Named_s ot hot⟩) (vec_ok (by omega) (by omega))
theorem ckO_eq (k : Int) (nm ot : ByteArray) (fr to : Int) (n : Nat) : ckO k nm ot fr to n = if fmO k nm ot fr to n ≠ 0 then fmO k nm ot fr to n else if szB k to = false then 106 else if rgB k fr to = false then 107 else 0 := by
  unfold ckO fmO fm5 isF
  by_cases h : k < 1 ∨ 11 < k
  · simp [h]
  · rw [if_neg h, if_neg h]
    split
    · simp
    · split
      · simp
      · split
        · simp
        · split
          · simp
          · simp

end Go.Proofs.YthkkdmblkalknaaGreatDoor
/-
  The document's Check.
-/
namespace Go.Proofs.YthkkdmblkalknaaGreatDoor
open Go.RowKit

theorem sr1 (fr to : Int) : (if szB 1 to = false then (106 : Int) else if rgB 1 fr to = false then 107 else 0) = if 1 ≤ to ∧ to ≤ 262144 then 0 else 106 := by
  unfold szB rgB
  by_cases h : 1 ≤ to ∧ to ≤ 262144
  · rw [if_pos h]; simp [h.1, h.2]
  · rw [if_neg h]; simp only [Decidable.not_and_iff_or_not] at h; rcases h with h | h <;> simp [h]
theorem sr4 (fr to : Int) : (if szB 4 to = false then (106 : Int) else if rgB 4 fr to = false then 107 else 0) = if 1 ≤ to ∧ to ≤ 262144 then 0 else 106 := by
  unfold szB rgB
  by_cases h : 1 ≤ to ∧ to ≤ 262144
  · rw [if_pos h]; simp [h.1, h.2]
  · rw [if_neg h]; simp only [Decidable.not_and_iff_or_not] at h; rcases h with h | h <;> simp [h]
theorem sr11 (fr to : Int) : (if szB 11 to = false then (106 : Int) else if rgB 11 fr to = false then 107 else 0) = if 1 ≤ to ∧ to ≤ 262144 then 0 else 106 := by
  unfold szB rgB
  by_cases h : 1 ≤ to ∧ to ≤ 262144
  · rw [if_pos h]; simp [h.1, h.2]
  · rw [if_neg h]; simp only [Decidable.not_and_iff_or_not] at h; rcases h with h | h <;> simp [h]
theorem sr2 (fr to : Int) : (if szB 2 to = false then (106 : Int) else if rgB 2 fr to = false then 107 else 0) = 0 := by
  unfold szB rgB
  simp
theorem sr3 (fr to : Int) : (if szB 3 to = false then (106 : Int) else if rgB 3 fr to = false then 107 else 0) = 0 := by
  unfold szB rgB
  simp
theorem sr5 (fr to : Int) : (if szB 5 to = false then (106 : Int) else if rgB 5 fr to = false then 107 else 0) = 0 := by
  unfold szB rgB
  simp
theorem sr6 (fr to : Int) : (if szB 6 to = false then (106 : Int) else if rgB 6 fr to = false then 107 else 0) = 0 := by
  unfold szB rgB
  simp
theorem sr7 (fr to : Int) : (if szB 7 to = false then (106 : Int) else if rgB 7 fr to = false then 107 else 0) = 0 := by
  unfold szB rgB
  simp
theorem sr8 (fr to : Int) : (if szB 8 to = false then (106 : Int) else if rgB 8 fr to = false then 107 else 0) = if 0 ≤ fr ∧ fr ≤ 262143 then 0 else 107 := by
  unfold szB rgB
  by_cases h : 0 ≤ fr ∧ fr ≤ 262143
  · rw [if_pos h]; simp [h.1, h.2]
  · rw [if_neg h]; simp only [Decidable.not_and_iff_or_not] at h; rcases h with h | h <;> simp [h]
theorem sr9 (fr to : Int) : (if szB 9 to = false then (106 : Int) else if rgB 9 fr to = false then 107 else 0) = if 0 ≤ fr ∧ to ≤ 262144 ∧ fr ≤ to then 0 else 107 := by
  unfold szB rgB
  by_cases h : 0 ≤ fr ∧ to ≤ 262144 ∧ fr ≤ to
  · rw [if_pos h]; simp [h.1, h.2.1, h.2.2]
  · rw [if_neg h]; simp only [Decidable.not_and_iff_or_not] at h; rcases h with h | h | h <;> simp [h]
theorem sr10 (fr to : Int) : (if szB 10 to = false then (106 : Int) else if rgB 10 fr to = false then 107 else 0) = if 0 ≤ fr ∧ to ≤ 262144 ∧ fr ≤ to ∧ to - fr ≤ 32 then 0 else 107 := by
  unfold szB rgB
  by_cases h : 0 ≤ fr ∧ to ≤ 262144 ∧ fr ≤ to ∧ to - fr ≤ 32
  · rw [if_pos h]; simp [h.1, h.2.1, h.2.2.1, h.2.2.2]
  · rw [if_neg h]; simp only [Decidable.not_and_iff_or_not] at h; rcases h with h | h | h | h <;> simp [h]
set_option maxRecDepth 100000 in
set_option maxHeartbeats 8000000 in
theorem rCheck_any (k : Int) (nm ot : ByteArray) (fr to : Int) (a : Option Addr) (n c : Nat) (w : World) (hnm : nm.size ≤ 16777216) (hot : ot.size ≤ 16777216) (hf : -9223372036854775808 ≤ fr) (ht : to ≤ 9223372036854775807) :
    Calls Tryz.prog 48 #[opV k nm ot fr to a n c] w fun e w' => e = .returned (.int .i64 (ckO k nm ot fr to n)) ∧ Below w.heap.size w w' := by
  rw [ckO_eq]
  obtain ⟨W0, hW0⟩ : ∃ W0, W0 = w.alloc (.cells #[.int .i64 k, .string nm, .string ot, .int .i64 fr, .int .i64 to, .slice a n c] 29) := ⟨_, rfl⟩
  have b0 : Below w.heap.size w W0 := by rw [hW0]; exact below1 _ _
  have hO : ∀ W, Below W0.heap.size W0 W → W.heap[w.heap.size]? = some (.cells #[.int .i64 k, .string nm, .string ot, .int .i64 fr, .int .i64 to, .slice a n c] 29 (0, 0)) := fun W hb => by
    rw [hb.block _ (by rw [hW0]; simp), hW0]
    exact heap_new _ _
  have HF : Hid (Calls Tryz.prog 83 #[opV k nm ot fr to a n c] W0 fun e w1 => e = .returned (.int .i64 (fmO k nm ot fr to n)) ∧ (w1.cell? ⟨w.heap.size, 0, none⟩ = some (.int .i64 k) ∧ w1.cell? ⟨w.heap.size, 3, none⟩ = some (.int .i64 fr) ∧ w1.cell? ⟨w.heap.size, 4, none⟩ = some (.int .i64 to)) ∧ Below w.heap.size w w1) := by
    refine (Formed_any k nm ot fr to a n c W0 hnm hot).mono ?_
    rintro e w1 ⟨rfl, hb⟩
    have hh := hO w1 hb
    exact ⟨rfl, ⟨by simp only [World.cell?, hh]; rfl, by simp only [World.cell?, hh]; rfl, by simp only [World.cell?, hh]; rfl⟩, b0.trans (hb.mono b0.size)⟩
  have HW0 := hid hW0
  clear hW0 b0 hO
  have HE : Hid (∀ F, F ≠ 0 → (if F ≠ 0 then F else if szB k to = false then (106 : Int) else if rgB k fr to = false then 107 else 0) = F) := fun F hF => if_pos hF
  have HE0 : Hid ((if (0 : Int) ≠ 0 then (0 : Int) else if szB k to = false then (106 : Int) else if rgB k fr to = false then 107 else 0) = if szB k to = false then 106 else if rgB k fr to = false then 107 else 0) := if_neg (by decide)
  generalize hF : fmO k nm ot fr to n = F at *
  have HFF := hid hF
  clear hF
  by_cases hF0 : F = 0
  · subst hF0
    rw [HE0.out]
    clear HE HE0
    have hkk : ¬ k < 1 ∧ ¬ 11 < k := by
      have := HFF.out
      unfold fmO at this
      by_cases h : k < 1 ∨ 11 < k
      · rw [if_pos h] at this; exact absurd this (by decide)
      · omega
    obtain ⟨k1, k2⟩ := hkk
    clear HFF
    rcases kinds (k := k) (by omega) (by omega) with rfl | rfl | rfl | rfl | rfl | rfl | rfl | rfl | rfl | rfl | rfl
    all_goals
      clear k1 k2
      first | rw [sr1] | rw [sr2] | rw [sr3] | rw [sr4] | rw [sr5] | rw [sr6] | rw [sr7] | rw [sr8] | rw [sr9] | rw [sr10] | rw [sr11]
      go_enter Tryz.func48, Tryz.ntmps48
      go_wp2_with fail
      rw [← HW0.out]
      refine HF.out.mono ?_
      rintro e w1 ⟨rfl, ⟨c0, c3, c4⟩, hb⟩
      have HB := hid hb
      clear hb HF HW0
      go_wp2
      all_goals go_ret
      all_goals refine ⟨?_, HB.out⟩
      all_goals first | rfl | (rw [if_pos (by omega)]; rfl) | (rw [if_neg (by omega)]; rfl)
  · have q : (F != 0) = true := by simpa using hF0
    rw [HE.out F hF0]
    clear HE HE0 HFF hF0
    go_enter Tryz.func48, Tryz.ntmps48
    go_wp2_with fail
    rw [← HW0.out]
    refine HF.out.mono ?_
    rintro e w1 ⟨rfl, ⟨c0, c3, c4⟩, hb⟩
    have HB := hid hb
    clear hb HF HW0
    go_wp2
    go_ret
    exact ⟨rfl, HB.out⟩

end Go.Proofs.YthkkdmblkalknaaGreatDoor
/-
  The document's Program.
-/
namespace Go.Proofs.YthkkdmblkalknaaGreatDoor
open Go.RowKit

set_option maxRecDepth 100000 in
set_option maxHeartbeats 4000000 in
theorem rProgram_any (x : Option Addr) (c : Nat) (os : List PO) (w : World) (hl : os.length ≤ 16777216) (hR : RdO w.heap.size w x os) :
    Calls Tryz.prog 49 #[.slice x os.length c] w fun e w' => e = .returned (.int .i64 (prg os)) ∧ Below w.heap.size w w' := by
  by_cases h120 : 120 < os.length
  · have e : prg os = 164 := if_pos h120
    rw [e]
    have q : (120 : Int) < (os.length : Int) := by omega
    clear hR
    go_enter Tryz.func49, Tryz.ntmps49
    go_wp2
    go_ret
    exact ⟨rfl, Below.refl _ _⟩
  have e : prg os = pgA os := if_neg h120
  rw [e]
  have q : ¬ (120 : Int) < (os.length : Int) := by omega
  have HR := hid hR
  clear hR e
  go_enter Tryz.func49, Tryz.ntmps49
  go_wp2_with fail
  go_loopw [3] (fun i wr => ∃ r : Nat, r ≤ os.length ∧ i = .int .i64 (r : Int) ∧ Below w.heap.size w wr ∧ ∀ j (hj : j < os.length), j < r → pg1 (os[j]'hj) = 0) (fun i _ => os.length - (intOf i).toNat)
  case atStart => exact ⟨0, Nat.zero_le _, rfl, Below.refl _ _, fun j _ hj => by omega⟩
  case round =>
    obtain ⟨r, hr, rfl, hb, hall⟩ := hrel
    by_cases hlt : r < os.length
    · have hR2 := HR.out.below hb
      have hok := hR2.1 (os[r]'hlt) (List.getElem_mem hlt)
      obtain ⟨b, off, rfl, hbl, hc⟩ := hR2.2.resolve_left (fun e => by rw [e] at hlt; simp at hlt)
      obtain ⟨a, cp, ⟨c0, c1, c2, c3, c4, c5⟩, _, _⟩ := hc r hlt
      have hcnd : ∀ h : pg1 (os[r]'hlt) ≠ 0, pgA os = pg1 (os[r]'hlt) := fun h => pgA_hit hlt (fun j hj => hall j (by omega) hj) h
      have HCN := hid hcnd
      have HAL := hid hall
      have HH := hid hb
      have hr1 : (r : Int) < (os.length : Int) := by omega
      generalize hO : os[r]'hlt = o at *
      have HC := hid (rCheck_any o.k o.nm o.ot o.fr o.to a o.da.length cp wr hok.nm hok.ot hok.f0 hok.t1)
      change Hid (Calls Tryz.prog 48 _ wr fun e w' => e = .returned (.int .i64 o.ck) ∧ _) at HC
      have HO := hid hO
      clear hc hR2 hcnd hall hb hok hO
      by_cases h8 : o.k = 8
      · have HQ := hid (HCN.out (by unfold pg1; rw [if_pos (.inl h8)]; decide))
        have HP : Hid (pg1 o = 163) := by unfold pg1; exact if_pos (.inl h8)
        rw [h8] at c0
        clear h8
        go_wp2
        go_ret
        exact ⟨by rw [HQ.out, HP.out]; rfl, HH.out⟩
      by_cases h11 : o.k = 11
      · have HQ := hid (HCN.out (by unfold pg1; rw [if_pos (.inr h11)]; decide))
        have HP : Hid (pg1 o = 163) := by unfold pg1; exact if_pos (.inr h11)
        rw [h11] at c0
        clear h8 h11
        go_wp2
        go_ret
        exact ⟨by rw [HQ.out, HP.out]; rfl, HH.out⟩
      have HP : Hid (pg1 o = o.ck) := by unfold pg1; exact if_neg (by omega)
      have p8 : (o.k == 8) = false := by simpa using h8
      have p11 : (o.k == 11) = false := by simpa using h11
      rw [HP.out] at HCN
      clear h8 h11
      generalize hE : o.ck = E at *
      have HE := hid hE
      clear hE
      go_wp2_with fail
      refine HC.out.mono ?_
      rintro e w4 ⟨rfl, hb4⟩
      have HB := hid (HH.out.trans (hb4.mono HH.out.size))
      clear hb4 HC c0 c1 c2 c3 c4 c5
      by_cases hE0 : E = 0
      · subst hE0
        go_wp2
        go_roundw
        case rel => exact ⟨r + 1, by omega, by go_num, HB.out, fun j hj hjr => by
          by_cases e : j = r
          · subst e
            rw [HO.out]
            exact HP.out
          · exact HAL.out j hj (by omega)⟩
        case measure => simp [intOf]; omega
      · have hq : (E != 0) = true := by simpa using hE0
        have HQ := hid (HCN.out hE0)
        clear hE0
        go_wp2
        go_ret
        exact ⟨by rw [HQ.out]; rfl, HB.out⟩
    · have HB := hid hb
      have HQ := hid (pgA_all fun j hj => hall j hj (by omega))
      clear hb hall
      go_wp2
      go_ret
      exact ⟨by rw [HQ.out]; rfl, HB.out⟩

end Go.Proofs.YthkkdmblkalknaaGreatDoor
