import Derived.Test.YtldlejpacgphmaaGreatG10
import Derived.Deep.RegionLaw
namespace Go.Proofs.YtldlejpacgphmaaGreat
open Go.RowKit
theorem info186 : (Tryz.prog.info? 186).map (fun i => (i.zero, i.size, i.bytes)) = some (some (.agg #[.int .i64 0, .int .i64 0]), 2, 16) := by kernel_rfl
theorem head_ready {w1 w2 : World} (fr bl seq : Int) (hw2 : w2 = (w1.drew.alloc (.cells #[.int .i64 fr, .int .i64 bl] 100)).alloc (.cells #[.int .i64 3, .int .i64 fr, .int .i64 3, .int .i64 bl] 186)) :
  (w2.alloc (.cells #[.int .i64 8, .int .i64 seq] 186)).ownsRow 0 186 2 (.slice (some ⟨w1.heap.size + 1, 0, none⟩) 2 2) 2 [.int .i64 3, .int .i64 fr, .int .i64 3, .int .i64 bl] ∧ w2.heap.size = w1.heap.size + 2 ∧ Below w1.heap.size w1 w2 := by
 have z2 : w2.heap.size = w1.heap.size + 2 := by rw [hw2]; simp
 refine ⟨⟨rfl, .inr ⟨w1.heap.size + 1, 2, #[.int .i64 3, .int .i64 fr, .int .i64 3, .int .i64 bl], rfl, Nat.zero_le _, ?_, Nat.le_refl _, by unfold maxLen; omega, rfl, rfl⟩⟩, z2, ?_⟩
 ·rw [Below.heap_alloc _ _ _ (by omega), hw2]
  show ((w1.drew.alloc (.cells #[.int .i64 fr, .int .i64 bl] 100)).heap.push _)[w1.heap.size + 1]? = _
  have hs : (w1.drew.alloc (.cells #[.int .i64 fr, .int .i64 bl] 100)).heap.size = w1.heap.size + 1 := by simp
  have e := Array.getElem?_push_size (xs := (w1.drew.alloc (.cells #[.int .i64 fr, .int .i64 bl] 100)).heap) (x := Obj.cells #[.int .i64 3, .int .i64 fr, .int .i64 3, .int .i64 bl] 186)
  rw [hs] at e
  exact e
 ·rw [hw2]
  exact (((Below.refl w1.heap.size w1).drew).alloc (Nat.le_refl _) _).alloc (by simp) _
theorem head_ready2 {w1 w2 : World} (fr bl seq : Int) (hw2 : w2 = ((w1.alloc (.cells #[.int .i64 8, .int .i64 seq] 186)).drew.alloc (.cells #[.int .i64 fr, .int .i64 bl] 100)).alloc (.cells #[.int .i64 3, .int .i64 fr, .int .i64 3, .int .i64 bl] 186)) :
  w2.ownsRow 0 186 2 (.slice (some ⟨w1.heap.size + 1 + 1, 0, none⟩) 2 2) 2 [.int .i64 3, .int .i64 fr, .int .i64 3, .int .i64 bl] ∧ w2.heap.size = w1.heap.size + 3 ∧ Below w1.heap.size w1 w2 ∧ ∀ j y, [Value.int .i64 8, .int .i64 seq][j]? = some y → w2.cell? ((⟨w1.heap.size, 0, none⟩ : Addr).add j) = some y := by
 have z2 : w2.heap.size = w1.heap.size + 3 := by rw [hw2]; simp
 have b2 : Below (w1.heap.size + 1) (w1.alloc (.cells #[.int .i64 8, .int .i64 seq] 186)) w2 := by
  rw [hw2]
  exact (((Below.refl _ _).drew).alloc (by simp) _).alloc (by simp) _
 refine ⟨⟨rfl, .inr ⟨w1.heap.size + 1 + 1, 2, #[.int .i64 3, .int .i64 fr, .int .i64 3, .int .i64 bl], rfl, Nat.zero_le _, ?_, Nat.le_refl _, by unfold maxLen; omega, rfl, rfl⟩⟩, z2, ?_, fun j y hj => ?_⟩
 ·rw [hw2]
  have hs : ((w1.alloc (.cells #[.int .i64 8, .int .i64 seq] 186)).drew.alloc (.cells #[.int .i64 fr, .int .i64 bl] 100)).heap.size = w1.heap.size + 1 + 1 := by simp
  have e := Array.getElem?_push_size (xs := ((w1.alloc (.cells #[.int .i64 8, .int .i64 seq] 186)).drew.alloc (.cells #[.int .i64 fr, .int .i64 bl] 100)).heap) (x := Obj.cells #[.int .i64 3, .int .i64 fr, .int .i64 3, .int .i64 bl] 186)
  rw [hs] at e
  exact e
 ·exact ((Below.refl w1.heap.size w1).alloc (Nat.le_refl _) _).trans (b2.mono (by omega))
 ·rw [← news2 w1 (.int .i64 8) (.int .i64 seq) 186 j y hj]
  exact b2.cell (p := (⟨w1.heap.size, 0, none⟩ : Addr).add j) (by simp only [Addr.add]; split <;> exact Nat.lt_succ_self _)
theorem head_packed {w w6 : World} {g cap : Nat} {fr bl seq : Nat} (ok : okF [(3, (fr : Int)), (3, (bl : Int)), (8, (seq : Int))]) (hb : Below w.heap.size w w6) (ho : w6.ownsRow 0 186 2 (.slice (some ⟨g, 0, none⟩) 3 cap) 3 [.int .i64 3, .int .i64 (fr : Int), .int .i64 3, .int .i64 (bl : Int), .int .i64 8, .int .i64 (seq : Int)]) (h1 : fr ≤ 524288) (h2 : bl ≤ 524288) (h3 : seq ≤ 1099511627776) :
  Calls Tryz.prog 145 #[.slice (some ⟨g, 0, none⟩) 3 cap] w6 fun e w' => ∃ g, e = .returned (.slice (some ⟨g, 0, none⟩) 14 14) ∧ w.heap.size ≤ g ∧ Blk .u8 5 w' g (headB fr bl seq) ∧ Below w.heap.size w w' := by
 have hs := hb.size
 refine Calls.mono (packed_any _ 3 cap [(3, (fr : Int)), (3, (bl : Int)), (8, (seq : Int))] w6 (by omega) ⟨rfl, fun f hf => ?_, .inr ⟨g, 0, rfl, (World.ownsRow.lt ho g rfl).2, fun t ht => ?_⟩⟩ ok) ?_
 ·simp at hf; rcases hf with rfl | rfl | rfl <;> simp <;> omega
 ·have hc := fun i (hi : i < 6) => World.ownsRow.cellAt ho i hi
  rcases t with _ | _ | _ | t
  ·exact ⟨hc 0 (by omega), hc 1 (by omega)⟩
  ·exact ⟨hc 2 (by omega), hc 3 (by omega)⟩
  ·exact ⟨hc 4 (by omega), hc 5 (by omega)⟩
  ·omega
 ·rintro e w3 ⟨g, rfl, hg, hB, b3⟩
  exact ⟨g, by rw [show (packZ [((3 : Int), (fr : Int)), (3, (bl : Int)), (8, (seq : Int))]).length = 14 from length_headB fr bl seq], by omega, hB, hb.trans (b3.mono (by omega))⟩
set_option maxRecDepth 100000 in
set_option maxHeartbeats 4000000 in
theorem headBody_any {fr bl seq : Nat} (h1 : fr ≤ 524288) (h2 : bl ≤ 524288) (h3 : seq ≤ 1099511627776) (w : World) : Calls Tryz.prog 188 #[.agg #[.int .i64 (fr : Int), .int .i64 (bl : Int), .int .i64 (seq : Int)]] w fun e w' => ∃ g, e = .returned (.slice (some ⟨g, 0, none⟩) 14 14) ∧ w.heap.size ≤ g ∧ Blk .u8 5 w' g (headB fr bl seq) ∧ Below w.heap.size w w' := by
 obtain ⟨w1, hw1⟩ : ∃ w1, w1 = w.alloc (.cells #[.int .i64 (fr : Int), .int .i64 (bl : Int), .int .i64 (seq : Int)] 143) := ⟨_, rfl⟩
 have hb1 : w1.heap[w.heap.size]? = some (.cells #[.int .i64 (fr : Int), .int .i64 (bl : Int), .int .i64 (seq : Int)] 143 (0, 0)) := by
  rw [hw1]
  show (w.heap.push _)[w.heap.size]? = _
  simp
 have z1 : Hid (w1.heap.size = w.heap.size + 1) := by rw [hw1]; exact (by simp : (w.alloc _).heap.size = w.heap.size + 1)
 have b1 : Hid (Below w.heap.size w w1) := by rw [hw1]; exact (Below.refl w.heap.size w).alloc (Nat.le_refl _) _
 have k0 : w1.cell? ⟨w.heap.size, 0, none⟩ = some (.int .i64 (fr : Int)) := by simp [World.cell?, hb1]
 have k1 : w1.cell? ⟨w.heap.size, 1, none⟩ = some (.int .i64 (bl : Int)) := by simp [World.cell?, hb1]
 have k2 : w1.cell? ⟨w.heap.size, 2, none⟩ = some (.int .i64 (seq : Int)) := by simp [World.cell?, hb1]
 have HPK : Hid (∀ (w6 : World) (g cap : Nat), Below w.heap.size w w6 → w6.ownsRow 0 186 2 (.slice (some ⟨g, 0, none⟩) 3 cap) 3 [.int .i64 3, .int .i64 (fr : Int), .int .i64 3, .int .i64 (bl : Int), .int .i64 8, .int .i64 (seq : Int)] → _) := fun w6 g cap q1 q2 => head_packed (w := w) (okF_head h1 h2 h3) q1 q2 h1 h2 h3
 have k0a : (w1.alloc (.cells #[.int .i64 8, .int .i64 (seq : Int)] 186)).cell? ⟨w.heap.size, 0, none⟩ = some (.int .i64 (fr : Int)) := (World.cell?_alloc_past _ _ _ (by have := z1.out; show w.heap.size < _; omega)).trans k0
 have k1a : (w1.alloc (.cells #[.int .i64 8, .int .i64 (seq : Int)] 186)).cell? ⟨w.heap.size, 1, none⟩ = some (.int .i64 (bl : Int)) := (World.cell?_alloc_past _ _ _ (by have := z1.out; show w.heap.size < _; omega)).trans k1
 clear hb1 h1 h2 h3
 obtain ⟨i186, hi186, hz186, hs186, hb186⟩ := info_parts info186
 go_enter Tryz.func188, Tryz.ntmps188
 go_wp2_with fail
 rw [← hw1]
 clear hw1
 go_region_law (first
  | (go_simp; go_at_call 190; refine Calls.mono (fields_any _ _ _) ?_; rintro e w2 ⟨rfl, hw2⟩; have HW2 := hid (head_ready (fr : Int) (bl : Int) (seq : Int) hw2); have c2 : w2.cell? ⟨w.heap.size, 2, none⟩ = some (.int .i64 (seq : Int)) := (HW2.out.2.2.cell (p := ⟨w.heap.size, 2, none⟩) (by have := z1.out; show w.heap.size < _; omega)).trans k2; clear hw2; dsimp only)
  | (go_simp; go_at_call 190; refine Calls.mono (fields_any _ _ _) ?_; rintro e w2 ⟨rfl, hw2⟩; have HX2 := hid (head_ready2 (fr : Int) (bl : Int) (seq : Int) hw2); clear hw2; dsimp only)
  | (refine step_append_lies _ (by rfl) _ _ _ (by rfl) 0 186 i186 (.agg #[.int .i64 0, .int .i64 0]) 2 16 Tryz.underlying191 hi186 hz186 hs186 hb186 rfl (by decide) _ 2 _ (by rfl) (by exact HX2.out.1) ⟨w1.heap.size, 0, none⟩ 1 1 [.int .i64 8, .int .i64 (seq : Int)] (by rfl) (by rfl) (by exact HX2.out.2.2.2) (by intro u hu; simp at hu; rcases hu with rfl | rfl <;> rfl) (by decide) (by unfold maxLen; omega) (by omega) (by omega) (w2.heap.size) (by rfl) ?_; intro g4 cap4 w6 ho4 hg4 hlie4 _; have HO5 := hid ho4; have HG5 := hid hg4; clear ho4 hg4 hlie4)
  | (go_simp; go_at_call 145; refine Calls.mono (HPK.out w6 g4 cap4 (((But.of_below b1.out (X := fun x => w.heap.size ≤ x)).trans (But.of_below HX2.out.2.2.1)).of_grown HG5.out (fun x e _ => by have := z1.out; cases e; show w.heap.size ≤ w1.heap.size + 1 + 1; omega)|>.below (Nat.le_refl _) (fun k hk q => by omega)) HO5.out) ?_; rintro e w7 ⟨g7, rfl, q7⟩; have FIN := hid q7; clear q7; dsimp only)
  | (refine step_append_lies _ (by rfl) _ _ _ (by rfl) 0 186 i186 (.agg #[.int .i64 0, .int .i64 0]) 2 16 Tryz.underlying191 hi186 hz186 hs186 hb186 rfl (by decide) _ 2 _ (by rfl) (by exact HW2.out.1) ⟨w2.heap.size, 0, none⟩ 1 1 [.int .i64 8, .int .i64 (seq : Int)] (by rfl) (by rfl) (by exact news2 w2 _ _ _) (by intro u hu; simp at hu; rcases hu with rfl | rfl <;> rfl) (by decide) (by unfold maxLen; omega) (by omega) (by omega) (w2.heap.size + 1) (by simp) ?_; intro g4 cap4 w6 ho4 hg4 hlie4 _; have HO4 := hid ho4; have HG4 := hid hg4; clear ho4 hg4 hlie4)
  | (go_simp; go_at_call 145; refine Calls.mono (HPK.out w6 g4 cap4 (((((But.of_below b1.out (X := fun x => w.heap.size ≤ x)).trans (But.of_below HW2.out.2.2)).alloc (.cells #[.int .i64 8, .int .i64 (seq : Int)] 186)).of_grown HG4.out (fun x e _ => by have := z1.out; cases e; show w.heap.size ≤ w1.heap.size + 1; omega)).below (Nat.le_refl _) (fun k hk q => by omega)) HO4.out) ?_; rintro e w7 ⟨g7, rfl, q7⟩; have FIN := hid q7; clear q7; dsimp only))
 all_goals
  clear k0 k1 k2 k0a k1a HPK
  go_wp2
  go_ret
  exact ⟨g7, rfl, FIN.out⟩
end Go.Proofs.YtldlejpacgphmaaGreat
namespace Go.Proofs.YtldlejpacgphmaaGreat
open Go.RowKit
def blankZ (fr bl : Nat) : List Int := stampZ 1 0 (blankB fr bl)
def headZ (fr bl life seq : Nat) : List Int := stampZ 2 (life : Int) (headB fr bl seq)
set_option maxRecDepth 100000 in
theorem kind149 (s : String) (hs : s = (((Tryz.prog.info? 149).bind fun i => i.methods.find? fun r => (r.func.map (fun x => x.1)) == some 196).map (fun r => r.name)).getD default) (v : Value) (w : World) : Sem.run Tryz.prog (method 331 149 v s) w = .ok (196, v) w := by
 subst hs
 kernel_rfl
set_option maxRecDepth 100000 in
theorem body149 (s : String) (hs : s = (((Tryz.prog.info? 149).bind fun i => i.methods.find? fun r => (r.func.map (fun x => x.1)) == some 195).map (fun r => r.name)).getD default) (v : Value) (w : World) : Sem.run Tryz.prog (method 331 149 v s) w = .ok (195, v) w := by
 subst hs
 kernel_rfl
set_option maxRecDepth 100000 in
theorem kind143 (s : String) (hs : s = (((Tryz.prog.info? 143).bind fun i => i.methods.find? fun r => (r.func.map (fun x => x.1)) == some 189).map (fun r => r.name)).getD default) (v : Value) (w : World) : Sem.run Tryz.prog (method 331 143 v s) w = .ok (189, v) w := by
 subst hs
 kernel_rfl
set_option maxRecDepth 100000 in
theorem body143 (s : String) (hs : s = (((Tryz.prog.info? 143).bind fun i => i.methods.find? fun r => (r.func.map (fun x => x.1)) == some 188).map (fun r => r.name)).getD default) (v : Value) (w : World) : Sem.run Tryz.prog (method 331 143 v s) w = .ok (188, v) w := by
 subst hs
 kernel_rfl
set_option maxRecDepth 100000 in
theorem kind145 (s : String) (hs : s = (((Tryz.prog.info? 145).bind fun i => i.methods.find? fun r => (r.func.map (fun x => x.1)) == some 192).map (fun r => r.name)).getD default) (v : Value) (w : World) : Sem.run Tryz.prog (method 331 145 v s) w = .ok (192, v) w := by
 subst hs
 kernel_rfl
set_option maxRecDepth 100000 in
theorem body145 (s : String) (hs : s = (((Tryz.prog.info? 145).bind fun i => i.methods.find? fun r => (r.func.map (fun x => x.1)) == some 191).map (fun r => r.name)).getD default) (v : Value) (w : World) : Sem.run Tryz.prog (method 331 145 v s) w = .ok (191, v) w := by
 subst hs
 kernel_rfl
set_option maxRecDepth 100000 in
theorem kind146 (s : String) (hs : s = (((Tryz.prog.info? 146).bind fun i => i.methods.find? fun r => (r.func.map (fun x => x.1)) == some 194).map (fun r => r.name)).getD default) (v : Value) (w : World) : Sem.run Tryz.prog (method 331 146 v s) w = .ok (194, v) w := by
 subst hs
 kernel_rfl
set_option maxRecDepth 100000 in
theorem body146 (s : String) (hs : s = (((Tryz.prog.info? 146).bind fun i => i.methods.find? fun r => (r.func.map (fun x => x.1)) == some 193).map (fun r => r.name)).getD default) (v : Value) (w : World) : Sem.run Tryz.prog (method 331 146 v s) w = .ok (193, v) w := by
 subst hs
 kernel_rfl
theorem kindBlank_any (a b : Int) (w : World) : Calls Tryz.prog 196 #[.agg #[.int .i64 a, .int .i64 b]] w fun e w' => e = .returned (.int .i64 1) ∧ Below w.heap.size w w' := by
 go_enter Tryz.func196, Tryz.ntmps196
 go_wp2
 go_ret
 exact ⟨rfl, (Below.refl _ _).alloc (Nat.le_refl _) _⟩
theorem kindHead_any (a b c : Int) (w : World) : Calls Tryz.prog 189 #[.agg #[.int .i64 a, .int .i64 b, .int .i64 c]] w fun e w' => e = .returned (.int .i64 2) ∧ Below w.heap.size w w' := by
 go_enter Tryz.func189, Tryz.ntmps189
 go_wp2
 go_ret
 exact ⟨rfl, (Below.refl _ _).alloc (Nat.le_refl _) _⟩
theorem kindPiece_any (a : Option Addr) (n c : Nat) (w : World) : Calls Tryz.prog 192 #[.slice a n c] w fun e w' => e = .returned (.int .i64 3) ∧ w' = w := by
 go_enter Tryz.func192, Tryz.ntmps192
 go_wp2
 go_ret
 exact ⟨rfl, rfl⟩
theorem kindLast_any (a : Option Addr) (n c : Nat) (w : World) : Calls Tryz.prog 194 #[.slice a n c] w fun e w' => e = .returned (.int .i64 4) ∧ w' = w := by
 go_enter Tryz.func194, Tryz.ntmps194
 go_wp2
 go_ret
 exact ⟨rfl, rfl⟩
theorem bodyPiece_any (a : Option Addr) (n c : Nat) (w : World) : Calls Tryz.prog 191 #[.slice a n c] w fun e w' => e = .returned (.slice a n c) ∧ w' = w := by
 go_enter Tryz.func191, Tryz.ntmps191
 go_wp2
 go_ret
 exact ⟨rfl, rfl⟩
theorem bodyLast_any (a : Option Addr) (n c : Nat) (w : World) : Calls Tryz.prog 193 #[.slice a n c] w fun e w' => e = .returned (.slice a n c) ∧ w' = w := by
 go_enter Tryz.func193, Tryz.ntmps193
 go_wp2
 go_ret
 exact ⟨rfl, rfl⟩
set_option maxRecDepth 100000 in
theorem stamped_blank {fr bl : Nat} (h1 : fr ≤ 524288) (h2 : bl ≤ 524288) (w : World) : Calls Tryz.prog 97 #[.iface 149 (.agg #[.int .i64 (fr : Int), .int .i64 (bl : Int)]), .int .i64 0] w fun e w' => ∃ g, e = .returned (.tuple #[.slice (some ⟨g, 0, none⟩) 512 512, .int .i64 0]) ∧ w.heap.size ≤ g ∧ Blk .u8 5 w' g (stampZ 1 0 (blankB fr bl)) ∧ Below w.heap.size w w' := by
 have HK : Hid (∀ w, Calls Tryz.prog 196 #[(.agg #[.int .i64 (fr : Int), .int .i64 (bl : Int)])] w fun e w' => e = .returned (.int .i64 1) ∧ Below w.heap.size w w') := fun w => kindBlank_any _ _ w
 have HB : Hid (∀ w1, Below w.heap.size w w1 → Calls Tryz.prog 195 #[(.agg #[.int .i64 (fr : Int), .int .i64 (bl : Int)])] w1 fun e w' => ∃ a n c, e = .returned (.slice a n c) ∧ n ≤ 497 ∧ Rd w'.heap.size w' a n (blankB fr bl) ∧ Below w1.heap.size w1 w') := fun w1 _ => Calls.mono (blankBody_any h1 h2 w1) (fun e w' q => by obtain ⟨g, rfl, h3, h4, h5⟩ := q; exact ⟨_, 6, 6, rfl, by omega, by have := Rd.of_blk h4 (isB_packZ _) h4.lt; rwa [length_blankB] at this, h5⟩)
 have HS := hid (fun (w1 : World) (a : Option Addr) (n c : Nat) (hn : n ≤ 497) (hB : Rd w1.heap.size w1 a n (blankB fr bl)) => Stamp_ok 1 0 a n c (blankB fr bl) w1 (by omega) (by omega) (by omega) (by omega) hn hB)
 clear h1 h2
 go_enter Tryz.func97, Tryz.ntmps97
 go_wp2_with (rw [kind149]; rotate_left; kernel_rfl)
 refine Calls.mono (HK.out w) ?_
 rintro e w1 ⟨rfl, b1⟩
 have B1 := hid b1
 have HB1 := hid (HB.out w1 b1)
 clear b1 HK HB
 go_wp2_with (rw [body149]; rotate_left; kernel_rfl)
 refine Calls.mono HB1.out ?_
 rintro e w2 ⟨a2, n2, c2, rfl, hn, hr, b2⟩
 have HS2 := hid (HS.out w2 a2 n2 c2 hn hr)
 have B2 := hid (B1.out.trans (b2.mono B1.out.size))
 clear b2 HB1 hn hr B1 HS
 go_wp2_with fail
 refine Calls.mono HS2.out ?_
 rintro e w3 ⟨rfl, hb3, b3⟩
 have FIN := hid (And.intro B2.out.size (And.intro hb3 (B2.out.trans (b3.mono B2.out.size))))
 clear hb3 b3 HS2 B2
 go_wp2
 go_ret2
 exact ⟨_, rfl, FIN.out⟩
set_option maxRecDepth 100000 in
theorem stamped_head {fr bl seq life : Nat} (hlf : life ≤ 1099511627776) (h1 : fr ≤ 524288) (h2 : bl ≤ 524288) (h3 : seq ≤ 1099511627776) (w : World) : Calls Tryz.prog 97 #[.iface 143 (.agg #[.int .i64 (fr : Int), .int .i64 (bl : Int), .int .i64 (seq : Int)]), .int .i64 (life : Int)] w fun e w' => ∃ g, e = .returned (.tuple #[.slice (some ⟨g, 0, none⟩) 512 512, .int .i64 0]) ∧ w.heap.size ≤ g ∧ Blk .u8 5 w' g (stampZ 2 (life : Int) (headB fr bl seq)) ∧ Below w.heap.size w w' := by
 have HK : Hid (∀ w, Calls Tryz.prog 189 #[(.agg #[.int .i64 (fr : Int), .int .i64 (bl : Int), .int .i64 (seq : Int)])] w fun e w' => e = .returned (.int .i64 2) ∧ Below w.heap.size w w') := fun w => kindHead_any _ _ _ w
 have HB : Hid (∀ w1, Below w.heap.size w w1 → Calls Tryz.prog 188 #[(.agg #[.int .i64 (fr : Int), .int .i64 (bl : Int), .int .i64 (seq : Int)])] w1 fun e w' => ∃ a n c, e = .returned (.slice a n c) ∧ n ≤ 497 ∧ Rd w'.heap.size w' a n (headB fr bl seq) ∧ Below w1.heap.size w1 w') := fun w1 _ => Calls.mono (headBody_any h1 h2 h3 w1) (fun e w' q => by obtain ⟨g, rfl, h3, h4, h5⟩ := q; exact ⟨_, 14, 14, rfl, by omega, by have := Rd.of_blk h4 (isB_packZ _) h4.lt; rwa [length_headB] at this, h5⟩)
 have HS := hid (fun (w1 : World) (a : Option Addr) (n c : Nat) (hn : n ≤ 497) (hB : Rd w1.heap.size w1 a n (headB fr bl seq)) => Stamp_ok 2 (life : Int) a n c (headB fr bl seq) w1 (by omega) (by omega) (by omega) (by omega) hn hB)
 clear h1 h2 h3
 go_enter Tryz.func97, Tryz.ntmps97
 go_wp2_with (rw [kind143]; rotate_left; kernel_rfl)
 refine Calls.mono (HK.out w) ?_
 rintro e w1 ⟨rfl, b1⟩
 have B1 := hid b1
 have HB1 := hid (HB.out w1 b1)
 clear b1 HK HB
 go_wp2_with (rw [body143]; rotate_left; kernel_rfl)
 refine Calls.mono HB1.out ?_
 rintro e w2 ⟨a2, n2, c2, rfl, hn, hr, b2⟩
 have HS2 := hid (HS.out w2 a2 n2 c2 hn hr)
 have B2 := hid (B1.out.trans (b2.mono B1.out.size))
 clear b2 HB1 hn hr B1 HS
 go_wp2_with fail
 refine Calls.mono HS2.out ?_
 rintro e w3 ⟨rfl, hb3, b3⟩
 have FIN := hid (And.intro B2.out.size (And.intro hb3 (B2.out.trans (b3.mono B2.out.size))))
 clear hb3 b3 HS2 B2
 go_wp2
 go_ret2
 exact ⟨_, rfl, FIN.out⟩
set_option maxRecDepth 100000 in
theorem stamped_piece {life : Nat} (a : Option Addr) (n c : Nat) (zs : List Int) (hlf : life ≤ 1099511627776) (hn : n ≤ 497) (w : World) (hR : Rd w.heap.size w a n zs) : Calls Tryz.prog 97 #[.iface 145 (.slice a n c), .int .i64 (life : Int)] w fun e w' => ∃ g, e = .returned (.tuple #[.slice (some ⟨g, 0, none⟩) 512 512, .int .i64 0]) ∧ w.heap.size ≤ g ∧ Blk .u8 5 w' g (stampZ 3 (life : Int) zs) ∧ Below w.heap.size w w' := by
 have HK : Hid (∀ w, Calls Tryz.prog 192 #[(.slice a n c)] w fun e w' => e = .returned (.int .i64 3) ∧ Below w.heap.size w w') := fun w => Calls.mono (kindPiece_any a n c w) (fun e w' q => by obtain ⟨rfl, rfl⟩ := q; exact ⟨rfl, Below.refl _ _⟩)
 have HB : Hid (∀ w1, Below w.heap.size w w1 → Calls Tryz.prog 191 #[(.slice a n c)] w1 fun e w' => ∃ a n c, e = .returned (.slice a n c) ∧ n ≤ 497 ∧ Rd w'.heap.size w' a n zs ∧ Below w1.heap.size w1 w') := fun w1 b1 => Calls.mono (bodyPiece_any a n c w1) (fun e w' q => by obtain ⟨rfl, rfl⟩ := q; exact ⟨a, n, c, rfl, hn, (hR.below b1).mono b1.size, Below.refl _ _⟩)
 have HS := hid (fun (w1 : World) (a : Option Addr) (n c : Nat) (hn : n ≤ 497) (hB : Rd w1.heap.size w1 a n zs) => Stamp_ok 3 (life : Int) a n c zs w1 (by omega) (by omega) (by omega) (by omega) hn hB)
 clear hR hn
 go_enter Tryz.func97, Tryz.ntmps97
 go_wp2_with (rw [kind145]; rotate_left; kernel_rfl)
 refine Calls.mono (HK.out w) ?_
 rintro e w1 ⟨rfl, b1⟩
 have B1 := hid b1
 have HB1 := hid (HB.out w1 b1)
 clear b1 HK HB
 go_wp2_with (rw [body145]; rotate_left; kernel_rfl)
 refine Calls.mono HB1.out ?_
 rintro e w2 ⟨a2, n2, c2, rfl, hn, hr, b2⟩
 have HS2 := hid (HS.out w2 a2 n2 c2 hn hr)
 have B2 := hid (B1.out.trans (b2.mono B1.out.size))
 clear b2 HB1 hn hr B1 HS
 go_wp2_with fail
 refine Calls.mono HS2.out ?_
 rintro e w3 ⟨rfl, hb3, b3⟩
 have FIN := hid (And.intro B2.out.size (And.intro hb3 (B2.out.trans (b3.mono B2.out.size))))
 clear hb3 b3 HS2 B2
 go_wp2
 go_ret2
 exact ⟨_, rfl, FIN.out⟩
set_option maxRecDepth 100000 in
theorem stamped_last {life : Nat} (a : Option Addr) (n c : Nat) (zs : List Int) (hlf : life ≤ 1099511627776) (hn : n ≤ 497) (w : World) (hR : Rd w.heap.size w a n zs) : Calls Tryz.prog 97 #[.iface 146 (.slice a n c), .int .i64 (life : Int)] w fun e w' => ∃ g, e = .returned (.tuple #[.slice (some ⟨g, 0, none⟩) 512 512, .int .i64 0]) ∧ w.heap.size ≤ g ∧ Blk .u8 5 w' g (stampZ 4 (life : Int) zs) ∧ Below w.heap.size w w' := by
 have HK : Hid (∀ w, Calls Tryz.prog 194 #[(.slice a n c)] w fun e w' => e = .returned (.int .i64 4) ∧ Below w.heap.size w w') := fun w => Calls.mono (kindLast_any a n c w) (fun e w' q => by obtain ⟨rfl, rfl⟩ := q; exact ⟨rfl, Below.refl _ _⟩)
 have HB : Hid (∀ w1, Below w.heap.size w w1 → Calls Tryz.prog 193 #[(.slice a n c)] w1 fun e w' => ∃ a n c, e = .returned (.slice a n c) ∧ n ≤ 497 ∧ Rd w'.heap.size w' a n zs ∧ Below w1.heap.size w1 w') := fun w1 b1 => Calls.mono (bodyLast_any a n c w1) (fun e w' q => by obtain ⟨rfl, rfl⟩ := q; exact ⟨a, n, c, rfl, hn, (hR.below b1).mono b1.size, Below.refl _ _⟩)
 have HS := hid (fun (w1 : World) (a : Option Addr) (n c : Nat) (hn : n ≤ 497) (hB : Rd w1.heap.size w1 a n zs) => Stamp_ok 4 (life : Int) a n c zs w1 (by omega) (by omega) (by omega) (by omega) hn hB)
 clear hR hn
 go_enter Tryz.func97, Tryz.ntmps97
 go_wp2_with (rw [kind146]; rotate_left; kernel_rfl)
 refine Calls.mono (HK.out w) ?_
 rintro e w1 ⟨rfl, b1⟩
 have B1 := hid b1
 have HB1 := hid (HB.out w1 b1)
 clear b1 HK HB
 go_wp2_with (rw [body146]; rotate_left; kernel_rfl)
 refine Calls.mono HB1.out ?_
 rintro e w2 ⟨a2, n2, c2, rfl, hn, hr, b2⟩
 have HS2 := hid (HS.out w2 a2 n2 c2 hn hr)
 have B2 := hid (B1.out.trans (b2.mono B1.out.size))
 clear b2 HB1 hn hr B1 HS
 go_wp2_with fail
 refine Calls.mono HS2.out ?_
 rintro e w3 ⟨rfl, hb3, b3⟩
 have FIN := hid (And.intro B2.out.size (And.intro hb3 (B2.out.trans (b3.mono B2.out.size))))
 clear hb3 b3 HS2 B2
 go_wp2
 go_ret2
 exact ⟨_, rfl, FIN.out⟩
end Go.Proofs.YtldlejpacgphmaaGreat
namespace Go.Proofs.YtldlejpacgphmaaGreat
open Go.RowKit
theorem Cq.cut {Z : Nat → Prop} {w : World} {c p room nb K : Nat} {d : Pd} (h : Cq Z w c p room nb K d) : Cq (fun k => Z k ∧ k < w.heap.size) w c p room nb K d := by
 obtain ⟨X, Y, hi, mi, l, h1, h2, h3, h4, h5, h6, h7⟩ := h
 exact ⟨fun k => X k ∧ k < w.heap.size, Y, hi, mi, l, ⟨h1.ca, h1.dk.cut, fun k q q' => h1.dj k q q'.1⟩, fun k q => ⟨h2 k q.1, q.2⟩, fun k q => ⟨h3 k q, h4 k q⟩, h4, h5, h6, h7⟩
theorem Jq.cut {Z : Nat → Prop} {w : World} {j c p room nb K fr bl : Nat} {d : Pd} {s : Js} (h : Jq Z w j c p room nb K fr bl d s) : Jq (fun k => Z k ∧ k < w.heap.size) w j c p room nb K fr bl d s := by
 obtain ⟨Zc, m, n, D, a, h⟩ := h
 refine ⟨fun k => Zc k ∧ k < w.heap.size, m, n, D, a, h.cq.cut, h.jb, h.mp, h.am, fun x g cp hx => ?_, h.non, fun q => h.nj q.1, fun q => h.nm q.1, ⟨h.zj, h.jb.lt⟩, ⟨h.zm, mapB_lt h.mp⟩, fun k q => ⟨h.sub k q.1, q.2⟩, h.sz⟩
 obtain ⟨zs, h1, h2, h3, h4, h5, h6⟩ := h.dat x g cp hx
 exact ⟨zs, h1, h2, h3, h4, fun q => h5 q.1, h6, h2.lt⟩
theorem Jq.mono {Z Z' : Nat → Prop} {w : World} {j c p room nb K K' fr bl : Nat} {d : Pd} {s : Js} (h : Jq Z w j c p room nb K fr bl d s) (hz : ∀ k, Z k → Z' k) (hK : K ≤ K') : Jq Z' w j c p room nb K' fr bl d s := by
 obtain ⟨Zc, m, n, D, a, h⟩ := h
 refine ⟨Zc, m, n, D, a, h.cq.mono (fun _ q => q) hK, h.jb, h.mp, h.am, fun x g cp hx => ?_, h.non, h.nj, h.nm, hz _ h.zj, hz _ h.zm, fun k q => hz k (h.sub k q), h.sz⟩
 obtain ⟨zs, h1, h2, h3, h4, h5, h6⟩ := h.dat x g cp hx
 exact ⟨zs, h1, h2, h3, h4, h5, hz _ h6⟩
theorem isB_bare {kind seq : Int} {body : List Int} (h : 0 ≤ kind ∧ kind < 256) (hb : Pl.isB body) : Pl.isB (bareZ kind seq body) := by
 unfold bareZ
 intro z hz
 rcases List.mem_cons.1 hz with rfl | hz
 ·exact h
 ·rcases List.mem_append.1 hz with hz | hz
  ·exact Pl.isB_dig _ _ z hz
  ·rcases List.mem_append.1 hz with hz | hz
   ·exact Pl.isB_dig _ _ z hz
   ·rcases List.mem_append.1 hz with hz | hz
    ·exact isB_four z hz
    ·rcases List.mem_append.1 hz with hz | hz
     ·exact hb z hz
     ·have := List.eq_of_mem_replicate hz
      omega
theorem length_bare {kind seq : Int} {body : List Int} (h : body.length ≤ 497) : (bareZ kind seq body).length = 512 := by
 unfold bareZ
 simp [Pl.dig, zeros]
 omega
theorem length_stampZ {kind seq : Int} {body : List Int} (h : body.length ≤ 497) : (stampZ kind seq body).length = 512 := by
 unfold stampZ
 rw [length_splice _ _ _ (by rw [length_bare h]; simp [Pl.dig]), length_bare h]
theorem isB_stampZ {kind seq : Int} {body : List Int} (h : 0 ≤ kind ∧ kind < 256) (hb : Pl.isB body) : Pl.isB (stampZ kind seq body) := by
 unfold stampZ splice
 have h1 := isB_bare (seq := seq) h hb
 intro z hz
 rcases List.mem_append.1 hz with hz | hz
 ·exact h1 z (List.mem_of_mem_take hz)
 ·rcases List.mem_append.1 hz with hz | hz
  ·exact Pl.isB_dig _ _ z hz
  ·exact h1 z (List.mem_of_mem_drop hz)
theorem blankZ_ok (fr bl : Nat) : (blankZ fr bl).length = 512 ∧ Pl.isB (blankZ fr bl) := ⟨length_stampZ (by rw [length_blankB]; omega), isB_stampZ (by omega) (isB_packZ _)⟩
theorem headZ_ok (fr bl life seq : Nat) : (headZ fr bl life seq).length = 512 ∧ Pl.isB (headZ fr bl life seq) := ⟨length_stampZ (by rw [length_headB]; omega), isB_stampZ (by omega) (isB_packZ _)⟩
def wipes (fr bl from_ count : Nat) : List Cmd := (List.range count).map fun i => Cmd.wr (from_ + i) (blankZ fr bl)
theorem wipes_succ (fr bl from_ q : Nat) : wipes fr bl from_ (q + 1) = wipes fr bl from_ q ++ [Cmd.wr (from_ + q) (blankZ fr bl)] := by
 unfold wipes
 rw [List.range_succ, List.map_append]
 rfl
theorem wipes_more {fr bl from_ q n : Nat} (h : q ≤ n) : ∃ r, wipes fr bl from_ n = wipes fr bl from_ q ++ r := by
 obtain ⟨k, rfl⟩ := Nat.exists_eq_add_of_le h
 refine ⟨(List.range k).map fun i => Cmd.wr (from_ + (q + i)) (blankZ fr bl), ?_⟩
 unfold wipes
 rw [List.range_add, List.map_append, List.map_map]
 rfl
theorem length_wipes (fr bl from_ q : Nat) : (wipes fr bl from_ q).length = q := by simp [wipes]
set_option maxRecDepth 100000 in
set_option maxHeartbeats 1000000 in
theorem wipe_any {Z : Nat → Prop} {w : World} {j c p room nb K fr bl : Nat} {d : Pd} {s : Js} (h : Jq Z w j c p room nb K fr bl d s) (h1 : fr ≤ 524288) (h2 : bl ≤ 524288) (from_ count : Nat) (hft : from_ + count ≤ nb) (hl : d.puts.length + count ≤ 1073741823) :
  Calls Tryz.prog 105 #[.pointer (some ⟨j, 0, none⟩), .int .i64 (from_ : Int), .int .i64 (count : Int)] w fun e w' => e = .returned (.int .i64 (d.runs (wipes fr bl from_ count)).1) ∧ (∃ Z', Jq Z' w' j c p room nb K fr bl (d.runs (wipes fr bl from_ count)).2 s ∧ Gr Z Z' w) ∧ But Z w w' := by
 have hnb := h.fits.2.2
 obtain ⟨mv, hJ, hZj⟩ := h.cells
 have j0 := hJ.cell 1
 have j1 := hJ.cell 2
 simp at j0 j1
 have HJ := hid h
 have HB := hid (stamped_blank h1 h2 w)
 have HL := hid hl
 clear hJ h hl
 go_enter Tryz.func105, Tryz.ntmps105
 go_wp2_with fail
 refine Calls.mono HB.out ?_
 rintro e w1 ⟨g, rfl, hg, hblk, b1⟩
 have HG := hid (And.intro hg hblk)
 have HJ1 := hid (HJ.out.cut.below b1)
 have B1 := hid b1
 clear hg hblk b1 HB j0 j1
 go_wp2_with fail
 go_loopw [25] (fun i wr => ∃ q : Nat, q ≤ count ∧ i = .int .i64 (q : Int) ∧ (d.runs (wipes fr bl from_ q)).1 = 0 ∧ (∃ Z', Jq Z' wr j c p room nb K fr bl (d.runs (wipes fr bl from_ q)).2 s ∧ Gr Z Z' w ∧ RdN Z' wr (some ⟨g, 0, none⟩) 512 (blankZ fr bl)) ∧ But Z w wr) (fun i _ => count - (intOf i).toNat)
 case atStart => exact ⟨0, Nat.zero_le _, rfl, rfl, ⟨_, HJ1.out, fun k _ q => q.1, by
   have := RdN.of_blk (X := fun k => Z k ∧ k < w.heap.size) HG.out.2 (blankZ_ok fr bl).2 (fun q => by have := HG.out.1; have := q.2; omega)
   rwa [show (stampZ 1 0 (blankB fr bl)).length = 512 from (blankZ_ok fr bl).1] at this⟩, But.of_below B1.out⟩
 case round =>
  clear HG HJ1 B1
  obtain ⟨q, hq, rfl, hz, ⟨Z', hJr, hGr, hRr⟩, hBt⟩ := hrel
  by_cases hqn : q < count
  ·have hqn' : (q : Int) < (count : Int) := by omega
   have e1 := d.runs_snoc hz (.wr (from_ + q) (blankZ fr bl))
   rw [← wipes_succ] at e1
   have hlen := d.runs_puts (wipes fr bl from_ q)
   rw [length_wipes] at hlen
   have hl := HL.out
   have HW := hid (hJr.write (by omega) (from_ + q) (by omega) (some ⟨g, 0, none⟩) 512 (blankZ fr bl) hRr)
   rw [← e1] at HW
   obtain ⟨mv', hJb, _⟩ := hJr.cells
   have c0 := hJb.cell 0
   simp at c0
   have KK := hid (And.intro hGr (And.intro hBt (And.intro hRr hJr.fits.2.2)))
   have hwr : IntKind.i64.wrap ((from_ : Int) + (q : Int)) = ((from_ + q : Nat) : Int) := by rw [IntKind.wrap_i64]; omega
   obtain ⟨r, hr⟩ := wipes_more (fr := fr) (bl := bl) (from_ := from_) (show q + 1 ≤ count by omega)
   have HR := hid hr
   clear hJb hJr hGr hBt hRr hlen hl e1 hr hz
   go_wp2_with fail
   refine Calls.mono HW.out ?_
   rintro e w2 ⟨rfl, ⟨Z2, hJ2, hG2⟩, b2⟩
   have hs := KK.out.2.1.size
   have b2' : But Z w w2 := KK.out.2.1.comp b2 (fun k hk q => KK.out.1 k hk q)
   have hr2 : RdN Z2 w2 (some ⟨g, 0, none⟩) 512 (blankZ fr bl) := by
    obtain ⟨q1, q2, q3⟩ := KK.out.2.2.1
    refine ⟨q1, q2, ?_⟩
    rcases q3 with q3 | ⟨b, off, q4, q5, q6, q7⟩
    ·cases q3
    ·exact .inr ⟨b, off, q4, Nat.lt_of_lt_of_le q5 b2.size, fun q => q6 (hG2 b q5 q), fun t ht => (b2.cell (by exact q5) (by exact q6)).trans (q7 t ht)⟩
   have FIN := hid (And.intro hJ2 (And.intro (KK.out.1.trans hG2 hs) (And.intro hr2 b2')))
   clear hJ2 hG2 b2 b2' hr2 HW KK c0 hs
   generalize hcd : d.runs (wipes fr bl from_ (q + 1)) = rr at *
   obtain ⟨code, d'⟩ := rr
   by_cases hc : code = 0
   ·subst hc
    go_wp2_with fail
    go_roundw
    case rel => exact ⟨q + 1, by omega, by go_num, by rw [hcd], ⟨Z2, by rw [hcd]; exact FIN.out.1, FIN.out.2.1, FIN.out.2.2.1⟩, FIN.out.2.2.2⟩
    case measure => simp [intOf]; omega
   ·have hst : d.runs (wipes fr bl from_ count) = (code, d') := by
     rw [HR.out, Pd.runs_stop (by rw [hcd]; exact hc), hcd]
    go_wp2
    go_ret
    rw [hst]
    exact ⟨rfl, ⟨Z2, FIN.out.1, FIN.out.2.1⟩, FIN.out.2.2.2⟩
  ·have hqn' : ¬ (q : Int) < (count : Int) := by omega
   have hqe : q = count := by omega
   subst hqe
   have FIN := hid (And.intro hJr (And.intro hGr hBt))
   have HZ := hid hz
   clear hJr hGr hRr hBt hz
   go_wp2
   go_ret
   rw [HZ.out]
   exact ⟨rfl, ⟨Z', FIN.out.1, FIN.out.2.1⟩, FIN.out.2.2⟩
end Go.Proofs.YtldlejpacgphmaaGreat
namespace Go.Proofs.YtldlejpacgphmaaGreat
open Go.RowKit
set_option maxRecDepth 100000 in
set_option maxHeartbeats 1000000 in
theorem writeRecord_of {Z : Nat → Prop} {w : World} {j c p room nb K fr bl : Nat} {d : Pd} {s : Js} (h : Jq Z w j c p room nb K fr bl d s) (hl : d.puts.length ≤ 1073741823) (x : Nat) (hx : x < nb) (rv : Value) (zs : List Int) (hz : zs.length = 512) (hb : Pl.isB zs)
  (HS : Calls Tryz.prog 97 #[rv, .int .i64 (s.life : Int)] w fun e w' => ∃ g, e = .returned (.tuple #[.slice (some ⟨g, 0, none⟩) 512 512, .int .i64 0]) ∧ w.heap.size ≤ g ∧ Blk .u8 5 w' g zs ∧ Below w.heap.size w w') :
  Calls Tryz.prog 133 #[.pointer (some ⟨j, 0, none⟩), .int .i64 (x : Int), rv] w fun e w' => e = .returned (.int .i64 (d.run1 (.wr x zs)).1) ∧ (∃ Z', Jq Z' w' j c p room nb K fr bl (d.run1 (.wr x zs)).2 s ∧ Gr Z Z' w) ∧ But Z w w' := by
 obtain ⟨mv, hJ, hZj⟩ := h.cells
 have j3 := hJ.cell 3
 simp at j3
 have H := hid (And.intro h (And.intro hl (And.intro hz hb)))
 have HS1 := hid HS
 clear hJ h hl hz hb HS
 go_enter Tryz.func133, Tryz.ntmps133
 go_wp2_with fail
 refine Calls.mono HS1.out ?_
 rintro e w1 ⟨g, rfl, hg, hblk, b1⟩
 have hJ1 := H.out.1.cut.below b1
 have hR : RdN (fun k => Z k ∧ k < w.heap.size) w1 (some ⟨g, 0, none⟩) 512 zs := by
  have := RdN.of_blk (X := fun k => Z k ∧ k < w.heap.size) hblk H.out.2.2.2 (fun q => by have := q.2; omega)
  rwa [H.out.2.2.1] at this
 have HW := hid (hJ1.write H.out.2.1 x hx (some ⟨g, 0, none⟩) 512 zs hR)
 obtain ⟨mv', hJb, _⟩ := hJ1.cells
 have c0 := hJb.cell 0
 simp at c0
 have B1 := hid b1
 clear hg hblk b1 HS1 j3 hJ1 hR hJb
 go_wp2_with fail
 refine Calls.mono HW.out ?_
 rintro e w2 ⟨rfl, ⟨Z2, hJ2, hG2⟩, b2⟩
 have FIN : Hid ((∃ Z', Jq Z' w2 j c p room nb K fr bl (d.run1 (.wr x zs)).2 s ∧ Gr Z Z' w) ∧ But Z w w2) := by
  have hs := B1.out.size
  exact ⟨⟨Z2, hJ2, fun k hk q => (hG2 k (by omega) q).1⟩, (But.of_below B1.out).comp b2 (fun k hk q => q.1)⟩
 clear hJ2 hG2 b2 HW c0 B1
 go_wp2
 go_ret
 exact ⟨rfl, FIN.out⟩
structure Jn (nb fr bl : Nat) (s : Js) : Prop where
 lo : 16 ≤ bl
 fit : fr + bl ≤ nb
 nb : nb ≤ 524288
 life : s.life ≤ 1099511627776
 seq : s.seq ≤ 1099511627776
 used : s.used + 1 ≤ bl
set_option maxRecDepth 100000 in
set_option maxHeartbeats 1000000 in
theorem writeHead_any {Z : Nat → Prop} {w : World} {j c p room nb K fr bl : Nat} {d : Pd} {s : Js} (h : Jq Z w j c p room nb K fr bl d s) (hn : Jn nb fr bl s) (hl : d.puts.length ≤ 1073741823) :
  Calls Tryz.prog 107 #[.pointer (some ⟨j, 0, none⟩)] w fun e w' => e = .returned (.int .i64 (d.run1 (.wr fr (headZ fr bl s.life s.seq))).1) ∧ (∃ Z', Jq Z' w' j c p room nb K fr bl (d.run1 (.wr fr (headZ fr bl s.life s.seq))).2 s ∧ Gr Z Z' w) ∧ But Z w w' := by
 obtain ⟨mv, hJ, hZj⟩ := h.cells
 have j1 := hJ.cell 1
 have j2 := hJ.cell 2
 have j4 := hJ.cell 4
 simp at j1 j2 j4
 have := hn.fit
 have := hn.nb
 have := hn.lo
 have H := hid (writeRecord_of (h.keep (w' := w.drew) (fun _ _ _ => rfl) (Nat.le_refl _)) hl fr (by omega) (.iface 143 (.agg #[.int .i64 (fr : Int), .int .i64 (bl : Int), .int .i64 (s.seq : Int)])) (headZ fr bl s.life s.seq) (headZ_ok _ _ _ _).1 (headZ_ok _ _ _ _).2 (stamped_head hn.life (by omega) (by omega) hn.seq _))
 clear hJ h hl hn
 go_enter Tryz.func107, Tryz.ntmps107
 go_wp2_with fail
 go_region_law (first
  | (go_simp; go_at_call 133; refine Calls.mono H.out ?_; rintro e w2 ⟨rfl, ⟨Z2, hJ2, hG2⟩, b2⟩; have FIN := hid (And.intro hJ2 (And.intro hG2 b2)); clear hJ2 hG2 b2; dsimp only))
 all_goals
  clear j1 j2 j4 H
  go_wp2
  go_ret
  exact ⟨rfl, ⟨Z2, FIN.out.1, FIN.out.2.1⟩, ⟨FIN.out.2.2.os, FIN.out.2.2.tape, FIN.out.2.2.output, FIN.out.2.2.size, FIN.out.2.2.block⟩⟩
end Go.Proofs.YtldlejpacgphmaaGreat
