import Derived.Test.YtldlejpacgphmabGreatG18
import Derived.Deep.AppendLies
namespace Go.Proofs.YtldlejpacgphmabGreat
open Go.RowKit Go.Deep
def Xb (w : World) (x j m : Nat) (sv mv : Value) : Prop := w.heap[x]? = some (.cells #[.iface 44 (.pointer (some ⟨j, 0, none⟩)), .map (some m), sv, mv] 208 (0, 0))
theorem Xb.lt {w : World} {x j m : Nat} {sv mv : Value} (h : Xb w x j m sv mv) : x < w.heap.size := (Array.getElem?_eq_some_iff.1 h).1
theorem Xb.cell {w : World} {x j m : Nat} {sv mv : Value} (h : Xb w x j m sv mv) (t : Nat) : w.cell? ⟨x, t, none⟩ = #[.iface 44 (.pointer (some ⟨j, 0, none⟩)), .map (some m), sv, mv][t]? := by
 unfold Xb at h
 simp [World.cell?, h]
theorem Xb.frozen {w : World} {x j m : Nat} {sv mv : Value} (h : Xb w x j m sv mv) (t : Nat) : w.frozen? ⟨x, t, none⟩ = false := by
 unfold Xb at h
 simp [World.frozen?, h]
theorem Xb.keep {w w' : World} {x j m : Nat} {sv mv : Value} (h : Xb w x j m sv mv) (hk : w'.heap[x]? = w.heap[x]?) : Xb w' x j m sv mv := hk.trans h
theorem Xb.set3 {w : World} {x j m : Nat} {sv mv : Value} (h : Xb w x j m sv mv) (v : Value) : Xb (w.setCell ⟨x, 3, none⟩ v) x j m sv v := by
 unfold Xb at h ⊢
 simp only [World.setCell, Array.getElem?_modify]
 rw [h]
 simp
theorem Xb.set2 {w : World} {x j m : Nat} {sv mv : Value} (h : Xb w x j m sv mv) (v : Value) : Xb (w.setCell ⟨x, 2, none⟩ v) x j m v mv := by
 unfold Xb at h ⊢
 simp only [World.setCell, Array.getElem?_modify]
 rw [h]
 simp
theorem news1 (w : World) (u : Value) (t : TypeId) : ∀ j y, [u][j]? = some y → (w.alloc (.cells #[u] t)).cell? ((⟨w.heap.size, 0, none⟩ : Addr).add j) = some y := by
 intro j y hy
 match j, hy with
 | 0, hy =>
  have : u = y := by simpa using hy
  subst this
  rw [Addr.add_lit]
  exact cell_new rfl 0 _ rfl
 | j + 1, hy => simp at hy
theorem row_ne_x {w : World} {base e n k x j m : Nat} {v sv mv : Value} {xs : List Value} (h : w.ownsRow base e 1 v n xs) (hx : Xb w x j m sv mv) (he : e ≠ 208) (hk : v.ownBlock = some k) : k ≠ x := fun q => by
 subst q
 rcases h.2 with ⟨rfl, _⟩ | ⟨g, cap, cur, rfl, _, hg, _⟩
 ·simp [Value.ownBlock] at hk
 ·have : g = k := by simpa [Value.ownBlock] using hk
  subst this
  unfold Xb at hx
  rw [hx] at hg
  injection hg with hg
  injection hg with _ hg
  exact he hg.symm
set_option maxRecDepth 100000 in
set_option maxHeartbeats 4000000 in
theorem mark_raw {w : World} {x j m M ns sc : Nat} {sa : Option Addr} {mv : Value} {xs : List Value} (hx : Xb w x j m (.slice sa ns sc) mv) (hr : w.ownsRow 0 3 1 mv M xs) (hM : M ≤ 1073741823) :
  Calls Tryz.prog 90 #[.pointer (some ⟨x, 0, none⟩)] w fun e w' => e = .returned (.int .i64 (M : Int)) ∧ ∃ g cap, Xb w' x j m (.slice sa ns sc) (.slice (some ⟨g, 0, none⟩) (M + 1) cap) ∧ w'.ownsRow 0 3 1 (.slice (some ⟨g, 0, none⟩) (M + 1) cap) (M + 1) (xs ++ [.int .i64 (ns : Int)]) ∧ (mv.ownBlock = some g ∨ w.heap.size ≤ g) ∧ But (fun k => k = x ∨ mv.ownBlock = some k) w w' := by
 obtain ⟨PO, hPO⟩ : ∃ PO : Ending → World → Prop, PO = fun e w' => e = .returned (.int .i64 (M : Int)) ∧ ∃ g cap, Xb w' x j m (.slice sa ns sc) (.slice (some ⟨g, 0, none⟩) (M + 1) cap) ∧ w'.ownsRow 0 3 1 (.slice (some ⟨g, 0, none⟩) (M + 1) cap) (M + 1) (xs ++ [.int .i64 (ns : Int)]) ∧ (mv.ownBlock = some g ∨ w.heap.size ≤ g) ∧ But (fun k => k = x ∨ mv.ownBlock = some k) w w' := ⟨_, rfl⟩
 rw [← hPO]
 obtain ⟨i3, hi3, hz3, hs3, hb3⟩ := info_parts info3
 have hxl := hx.lt
 have x2 := hx.cell 2
 have x3 := hx.cell 3
 simp at x2 x3
 obtain ⟨wA, hwA⟩ : ∃ wA, wA = w.alloc (.cells #[.int .i64 (ns : Int)] 3) := ⟨_, rfl⟩
 have bA : Below w.heap.size w wA := by rw [hwA]; exact (Below.refl _ _).alloc (Nat.le_refl _) _
 have zA : wA.heap.size = w.heap.size + 1 := by rw [hwA]; simp
 have x2A : (w.alloc (.cells #[.int .i64 (ns : Int)] 3)).drew.cell? ⟨x, 2, none⟩ = some (.slice sa ns sc) := by rw [← hwA]; exact (bA.cell (p := ⟨x, 2, none⟩) hxl).trans x2
 have x3A : (w.alloc (.cells #[.int .i64 (ns : Int)] 3)).drew.cell? ⟨x, 3, none⟩ = some mv := by rw [← hwA]; exact (bA.cell (p := ⟨x, 3, none⟩) hxl).trans x3
 have HRowA : Hid ((w.alloc (.cells #[.int .i64 (ns : Int)] 3)).drew.ownsRow 0 3 1 mv M xs) := by rw [← hwA]; exact owns_below hr bA.drew
 have HN : Hid (∀ w6 g4 cap4, w6.ownsRow 0 3 1 (.slice (some ⟨g4, 0, none⟩) (M + 1) cap4) (M + 1) (xs ++ [.int .i64 (ns : Int)]) → (w.alloc (.cells #[.int .i64 (ns : Int)] 3)).drew.grownBy w6 mv.ownBlock → (mv.ownBlock = some g4 ∨ g4 = w.heap.size + 1) → w6.cell? ⟨x, 2, none⟩ = some (.slice sa ns sc) ∧ w6.cell? ⟨x, 3, none⟩ = some mv ∧ w6.frozen? ⟨x, 3, none⟩ = false ∧ (w6.setCell ⟨x, 3, none⟩ (.slice (some ⟨g4, 0, none⟩) (M + 1) cap4)).cell? ⟨x, 2, none⟩ = some (.slice sa ns sc) ∧ ∃ g cap, (w6.setCell ⟨x, 3, none⟩ (.slice (some ⟨g4, 0, none⟩) (M + 1) cap4)).cell? ⟨x, 3, none⟩ = some (.slice (some ⟨g, 0, none⟩) (M + 1) cap) ∧ PO (.returned (.int .i64 (M : Int))) (w6.setCell ⟨x, 3, none⟩ (.slice (some ⟨g4, 0, none⟩) (M + 1) cap4))) := fun w6 g4 cap4 ho hg hl => by
  rw [← hwA] at hg
  have bg : But (fun k => mv.ownBlock = some k) wA w6 := (But.refl _ wA).drew.of_grown hg (fun k e _ => e)
  have sg := bg.size
  have hxn : ¬ mv.ownBlock = some x := fun e => row_ne_x hr hx (by decide) e rfl
  have hx6 : Xb w6 x j m (.slice sa ns sc) mv := hx.keep ((bg.block x (by omega) hxn).trans (bA.block x hxl))
  have hs6 := hx6.set3 (.slice (some ⟨g4, 0, none⟩) (M + 1) cap4)
  have hg4x : g4 ≠ x := by
   rcases hl with e | e
   ·exact row_ne_x hr hx (by decide) e
   ·omega
  have bs : But (fun k => k = x) w6 (w6.setCell ⟨x, 3, none⟩ (.slice (some ⟨g4, 0, none⟩) (M + 1) cap4)) := (But.refl (fun k => k = x) w6).setCell (p := ⟨x, 3, none⟩) rfl _
  have c2 := hs6.cell 2
  have c3 := hs6.cell 3
  have d2 := hx6.cell 2
  have d3 := hx6.cell 3
  simp at c2 c3 d2 d3
  refine ⟨d2, d3, hx6.frozen 3, c2, g4, cap4, c3, ?_⟩
  rw [hPO]
  refine ⟨rfl, g4, cap4, hs6, owns_keep ho (fun k e => ?_), hl.imp id (fun e => by omega), ?_⟩
  ·have : g4 = k := by simpa [Value.ownBlock] using e
   subst this
   exact bs.block g4 (World.ownsRow.lt ho g4 rfl).2 hg4x
  ·exact (((But.of_below bA (X := fun k => k = x ∨ mv.ownBlock = some k)).comp bg (fun _ _ q => .inr q))).comp bs (fun _ _ q => .inl q)
 clear hwA bA zA hPO hx hr
 go_enter Tryz.func90, Tryz.ntmps90
 go_upto_region 1 with fail
 go_cut [2] (fun s2 wx => ∃ g cap, s2 = .int .i64 0 ∧ wx.cell? ⟨x, 3, none⟩ = some (.slice (some ⟨g, 0, none⟩) (M + 1) cap) ∧ PO (.returned (.int .i64 (M : Int))) wx)
 case first =>
  refine wp_region_noPanic ?_
  refine wp_region_held_drew (S := fun w' => w'.cell? ⟨x, 2, none⟩ = some (.slice sa ns sc)) (by kernel_rfl) x2 (fun hSS => ?_)
  refine tk 0 (some 3) (.move (.tmp 0)) 143 none hSS ?_
  refine tk 1 (some 4) (.move (.tmp 0)) 143 none hSS ?_
  refine tk 2 (some 5) (.nilCheck (.tmp 4)) 0 none hSS ?_
  refine tk 3 (some 6) (.fieldAddr 208 (.tmp 5) 3) 0 none hSS ?_
  try simp only [Act.put, zA, zB, zC]
  refine tk 5 (some 8) (.move (.tmp 0)) 143 none hSS ?_
  refine tk 6 (some 9) (.nilCheck (.tmp 8)) 0 none hSS ?_
  refine tk 7 (some 10) (.fieldAddr 208 (.tmp 9) 2) 0 none hSS ?_
  refine tk 8 (some 11) (.load 206 (.tmp 10)) 206 none hSS ?_
  try simp only [Act.put, zA, zB, zC]
  refine tk 9 (some 12) (.call { callee := .builtin .len, args := #[.tmp 11], argTypes := #[206] }) 3 none hSS ?_
  try simp only [Act.put, zA, zB, zC]
  refine wpAnyH_ready (rs := [4, 10]) (by kernel_rfl) (by simp) (AllReadyH.cons (o := ({ dst := some 7, op := Op.load 26 (Operand.tmp 6), type := 26, pos := _, after := _, guard := none } : Oper)) rfl (fun K9 hK9 => ?_) (AllReadyH.cons (o := ({ dst := some 13, op := Op.buildSlice 26 1 #[(0, Operand.tmp 12)], type := 26, pos := _, after := _, guard := none } : Oper)) rfl (fun K9 hK9 => ?_) AllReadyH.nil))
  ·go_simp
   refine hK9.out _ _ hSS (fun hSS => ?_)
   clear hK9 K9
   try simp only [Act.put, zA, zB, zC]
   refine wpAnyH_ready (rs := [10]) (by kernel_rfl) (by simp) (AllReadyH.cons (o := ({ dst := some 13, op := Op.buildSlice 26 1 #[(0, Operand.tmp 12)], type := 26, pos := _, after := _, guard := none } : Oper)) rfl (fun K9 hK9 => ?_) AllReadyH.nil)
   go_simp
   refine hK9.out _ _ x2A (fun hSS => ?_)
   clear hK9 K9
   try simp only [Act.put, zA, zB, zC]
   refine wpAnyH_ready (rs := [11]) (by kernel_rfl) (by simp) (AllReadyH.cons (o := ({ dst := some 14, op := Op.call { callee := Callee.builtin Builtin.append, args := #[Operand.tmp 7, Operand.tmp 13], argTypes := #[26, 26] }, type := 26, pos := _, after := _, guard := none } : Oper)) rfl (fun K9 hK9 => ?_) AllReadyH.nil)
   refine step_append_lies _ (by rfl) _ _ _ (by rfl) 0 3 i3 (.int .i64 0) 1 8 Tryz.underlying26 hi3 hz3 hs3 hb3 rfl (by decide) _ M _ (by rfl) (by exact HRowA.out) ⟨w.heap.size, 0, none⟩ 1 1 [.int .i64 (ns : Int)] (by rfl) (by rfl) (by exact news1 w _ _) (by intro u hu; simp at hu; subst hu; rfl) (by decide) (by unfold maxLen; omega) (by omega) (by simp) (w.heap.size + 1) (by simp) ?_
   intro g4 cap4 w6 ho4 hg4 hlie4 _
   obtain ⟨y2, y3, yf, yS, hF⟩ := HN.out w6 g4 cap4 ho4 hg4 hlie4
   have HF := hid hF
   clear ho4 hg4 hlie4 hF HN
   dsimp [Act.put]
   refine hK9.out _ _ y2 (fun hSS => ?_)
   clear hK9 K9
   try simp only [List.setIfInBounds_toArray, List.set_cons_zero, List.set_cons_succ]
   refine tk 12 (some 15) (.nilCheck (.tmp 3)) 0 none hSS ?_
   refine tk 13 (some 16) (.fieldAddr 208 (.tmp 15) 3) 0 none hSS ?_
   try simp only [Act.put, zA, zB, zC]
   refine wpAnyH_ready (rs := [14]) (by kernel_rfl) (by simp) (AllReadyH.cons (o := ({ dst := none, op := Op.store 26 (Operand.tmp 16) (Operand.tmp 14), type := 0, pos := _, after := _, guard := none } : Oper)) rfl (fun K9 hK9 => ?_) AllReadyH.nil)
   go_simp
   refine hK9.out _ _ yS (fun hSS => ?_)
   clear hK9 K9
   try simp only [Act.put, zA, zB, zC]
   refine wpAnyH_done (by kernel_rfl) (NoPanic.normal ?_) _
   clear hSS
   go_wp2_with fail
   go_meet
   obtain ⟨g, cap, hF1⟩ := HF.out
   exact ⟨g, cap, rfl, hF1⟩
  ·go_simp
   refine hK9.out _ _ x2A (fun hSS => ?_)
   clear hK9 K9
   try simp only [Act.put, zA, zB, zC]
   refine wpAnyH_ready (rs := [4]) (by kernel_rfl) (by simp) (AllReadyH.cons (o := ({ dst := some 7, op := Op.load 26 (Operand.tmp 6), type := 26, pos := _, after := _, guard := none } : Oper)) rfl (fun K9 hK9 => ?_) AllReadyH.nil)
   go_simp
   refine hK9.out _ _ hSS (fun hSS => ?_)
   clear hK9 K9
   try simp only [Act.put, zA, zB, zC]
   refine wpAnyH_ready (rs := [11]) (by kernel_rfl) (by simp) (AllReadyH.cons (o := ({ dst := some 14, op := Op.call { callee := Callee.builtin Builtin.append, args := #[Operand.tmp 7, Operand.tmp 13], argTypes := #[26, 26] }, type := 26, pos := _, after := _, guard := none } : Oper)) rfl (fun K9 hK9 => ?_) AllReadyH.nil)
   refine step_append_lies _ (by rfl) _ _ _ (by rfl) 0 3 i3 (.int .i64 0) 1 8 Tryz.underlying26 hi3 hz3 hs3 hb3 rfl (by decide) _ M _ (by rfl) (by exact HRowA.out) ⟨w.heap.size, 0, none⟩ 1 1 [.int .i64 (ns : Int)] (by rfl) (by rfl) (by exact news1 w _ _) (by intro u hu; simp at hu; subst hu; rfl) (by decide) (by unfold maxLen; omega) (by omega) (by simp) (w.heap.size + 1) (by simp) ?_
   intro g4 cap4 w6 ho4 hg4 hlie4 _
   obtain ⟨y2, y3, yf, yS, hF⟩ := HN.out w6 g4 cap4 ho4 hg4 hlie4
   have HF := hid hF
   clear ho4 hg4 hlie4 hF HN
   dsimp [Act.put]
   refine hK9.out _ _ y2 (fun hSS => ?_)
   clear hK9 K9
   try simp only [List.setIfInBounds_toArray, List.set_cons_zero, List.set_cons_succ]
   refine tk 12 (some 15) (.nilCheck (.tmp 3)) 0 none hSS ?_
   refine tk 13 (some 16) (.fieldAddr 208 (.tmp 15) 3) 0 none hSS ?_
   try simp only [Act.put, zA, zB, zC]
   refine wpAnyH_ready (rs := [14]) (by kernel_rfl) (by simp) (AllReadyH.cons (o := ({ dst := none, op := Op.store 26 (Operand.tmp 16) (Operand.tmp 14), type := 0, pos := _, after := _, guard := none } : Oper)) rfl (fun K9 hK9 => ?_) AllReadyH.nil)
   go_simp
   refine hK9.out _ _ yS (fun hSS => ?_)
   clear hK9 K9
   try simp only [Act.put, zA, zB, zC]
   refine wpAnyH_done (by kernel_rfl) (NoPanic.normal ?_) _
   clear hSS
   go_wp2_with fail
   go_meet
   obtain ⟨g, cap, hF1⟩ := HF.out
   exact ⟨g, cap, rfl, hF1⟩
 case rest =>
 rename World => wq
 obtain ⟨g, cap, rfl, k3, hF⟩ := hcut
 have FIN := hid hF
 clear hF HN HRowA x2 x3 x2A x3A
 go_wp2_with fail
 exact FIN.out
end Go.Proofs.YtldlejpacgphmabGreat
