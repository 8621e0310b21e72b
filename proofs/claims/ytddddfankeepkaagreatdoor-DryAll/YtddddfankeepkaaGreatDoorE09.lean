import Derived.Test.YtddddfankeepkaaGreatDoorE08
import Derived.Laws.BytesArg
import Derived.Lib.SlBytesConst
import Derived.Deep.RegionWith
namespace Go.Proofs.YtddddfankeepkaaGreatDoor
open Go.RowKit
theorem conv_strS {B : Nat} {w : World} {a : Option Addr} {n : Nat} {zs : List Int} (h : Rd B w a n zs) (c : Nat) : (convert 40 9 (.slice a n c)).run Tryz.prog w = .ok (.string (strOfNums zs)) w := by
 obtain ⟨h1, h2, h3⟩ := h
 rcases h3 with rfl | ⟨b, off, rfl, hlt, hc⟩
 ·obtain rfl : zs = [] := List.length_eq_zero_iff.1 h1
  cases a with
  | none => exact run_convert_bytes_nil w 40 5 Tryz.underlying40 Tryz.underlying5 0 c 9 Tryz.underlying9
  | some ad =>
   have hl : (loadCells ad 0).run Tryz.prog w = .ok ([].map (Value.int .u8)).toArray w := by simpa using run_loadCells_list (P := Tryz.prog) w ad [] (by simp)
   rw [run_convert_bytes_string w 40 9 5 _ 0 c Tryz.underlying40 Tryz.underlying5 Tryz.underlying9, run_bytesToString w ad 0 c [] hl]
   rfl
 ·exact run_convert_bytes_arg w 40 5 Tryz.underlying40 Tryz.underlying5 b off n c zs h1 hc 9 Tryz.underlying9
set_option maxRecDepth 100000 in
set_option maxHeartbeats 1000000 in
theorem SameBytes_same (a a' : Option Addr) (n c c' : Nat) (zs : List Int) (w : World) {B B' : Nat} (h1 : Rd B w a n zs) (h2 : Rd B' w a' n zs) :
  Calls Tryz.prog 87 #[.slice a n c, .slice a' n c'] w fun e w' => e = .returned (.bool true) ∧ w' = w := by
 have e1 := conv_strS h1 c
 have e2 := conv_strS h2 c'
 clear h1 h2
 go_enter Tryz.func87, Tryz.ntmps87
 go_wp2
 go_ret
 exact ⟨rfl, rfl⟩
set_option maxRecDepth 100000 in
set_option maxHeartbeats 4000000 in
theorem SameOp_same (o : PO) (a a' : Option Addr) (c c' : Nat) (w : World) (h1 : Rd w.heap.size w a o.da.length o.da) (h2 : Rd w.heap.size w a' o.da.length o.da) :
  Calls Tryz.prog 46 #[.agg #[.int .i64 o.k, .string o.nm, .string o.ot, .int .i64 o.fr, .int .i64 o.tt, .slice a o.da.length c], .agg #[.int .i64 o.k, .string o.nm, .string o.ot, .int .i64 o.fr, .int .i64 o.tt, .slice a' o.da.length c']] w fun e w' => e = .returned (.bool true) ∧ Below w.heap.size w w' := by
 obtain ⟨W2, hW2⟩ : ∃ W2, W2 = (w.alloc (.cells #[.int .i64 o.k, .string o.nm, .string o.ot, .int .i64 o.fr, .int .i64 o.tt, .slice a o.da.length c] 42)).alloc (.cells #[.int .i64 o.k, .string o.nm, .string o.ot, .int .i64 o.fr, .int .i64 o.tt, .slice a' o.da.length c'] 42) := ⟨_, rfl⟩
 have b2 : Below w.heap.size w W2 := by rw [hW2]; exact ((Below.refl _ _).alloc (Nat.le_refl _) _).alloc (by simp) _
 have HC := hid (SameBytes_same a a' o.da.length c c' o.da W2 (h1.below b2) (h2.below b2))
 have HB := hid b2
 have HW2 := hid hW2
 clear h1 h2 b2 hW2
 generalize o.da.length = n at *
 generalize o.k = k at *
 generalize o.nm = nm at *
 generalize o.ot = ot at *
 generalize o.fr = fr at *
 generalize o.tt = tt at *
 go_enter Tryz.func46, Tryz.ntmps46
 go_wp2_with fail
 rw [← HW2.out]
 refine HC.out.mono ?_
 rintro e w3 ⟨rfl, hw3⟩
 rw [hw3]
 clear hw3
 go_wp2
 go_ret
 exact ⟨rfl, HB.out⟩
set_option maxRecDepth 100000 in
set_option maxHeartbeats 4000000 in
theorem SameOps_same (x y : Option Addr) (c c' : Nat) (os : List PO) (w : World) (hl : os.length ≤ 16777216) (h1 : RdO w.heap.size w x os) (h2 : RdO w.heap.size w y os) :
  Calls Tryz.prog 47 #[.slice x os.length c, .slice y os.length c'] w fun e w' => e = .returned (.bool true) ∧ Below w.heap.size w w' := by
 have H1 := hid h1
 have H2 := hid h2
 clear h1 h2
 go_enter Tryz.func47, Tryz.ntmps47
 go_wp2_with fail
 go_loopw [5] (fun i wr => ∃ r : Nat, r ≤ os.length ∧ i = .int .i64 (r : Int) ∧ Below w.heap.size w wr) (fun i _ => os.length - (intOf i).toNat)
 case atStart => exact ⟨0, Nat.zero_le _, rfl, Below.refl _ _⟩
 case round =>
  obtain ⟨r, hr, rfl, hb⟩ := hrel
  by_cases hlt : r < os.length
  ·have hR1 := H1.out.below hb
   have hR2 := H2.out.below hb
   obtain ⟨b, off, rfl, hbl, hc⟩ := hR1.2.resolve_left (fun e => by rw [e] at hlt; simp at hlt)
   obtain ⟨b', off', rfl, hbl', hc'⟩ := hR2.2.resolve_left (fun e => by rw [e] at hlt; simp at hlt)
   obtain ⟨a, cp, ⟨c0, c1, c2, c3, c4, c5⟩, r1, _⟩ := hc r hlt
   obtain ⟨a', cp', ⟨d0, d1, d2, d3, d4, d5⟩, r2, _⟩ := hc' r hlt
   generalize hO : os[r]'hlt = o at *
   have hbd : Below w.heap.size w wr.drew := hb.trans (below_drew _ _)
   have HC := hid (SameOp_same o a a' cp cp' wr.drew ((r1.below (below_drew _ _)).mono hb.size) ((r2.below (below_drew _ _)).mono hb.size))
   have HB := hid hbd
   clear hc hc' hR1 hR2 hO r1 r2 H1 H2 hbd hb
   have hr1 : (r : Int) < (os.length : Int) := by omega
   go_wp2_with fail
   go_region_with (go_at_call 46; refine Calls.mono HC.out ?_; rintro e w1 ⟨rfl, hb1⟩; (have HB1 := hid (HB.out.trans (hb1.mono HB.out.size)); clear hb1))
   all_goals go_wp2
   all_goals
    go_roundw
    case rel => exact ⟨r + 1, by omega, by go_num, HB1.out⟩
    case measure => simp [intOf]; omega
  ·have e : r = os.length := by omega
   subst e
   have HB := hid hb
   clear hb
   go_wp2
   go_ret
   exact ⟨rfl, HB.out⟩
end Go.Proofs.YtddddfankeepkaaGreatDoor
