import Derived.Test.YtddddfankeepkaaGreatDoorF33
import Derived.Test.YtddddfankeepkaaGreatDoorF35
import Derived.Test.YtddddfankeepkaaGreatDoorF13
import Derived.Test.YtddddfankeepkaaGreatDoorF10
import Derived.Test.YtddddfankeepkaaGreatDoorF34
import Derived.Laws.CopyOwn
import Derived.Deep.QuietTactic
import Derived.BigQuiet
namespace Go.Proofs.YtddddfankeepkaaGreatDoor
open Go.RowKit
theorem But.drewR {X : Nat → Prop} {w w' : World} (h : But X w w') : But X w w'.drew := ⟨h.os, h.tape, h.output, h.size, h.block⟩
theorem BlV.drewR {w : World} {g : Nat} {os : List PV} {us : List Value} (h : BlV w g os us) : BlV w.drew g os us := h
theorem heap_drewR (w : World) (a : Addr) (v : Value) : (w.drew.setCell a v).heap = (w.setCell a v).heap := rfl
structure LyS (W0 W : World) (B P0 P1 F n M : Nat) (gs : List Nat) (x y : VW) (a' : Option Addr) (c' : Nat) (us : List Value) (i : Nat) : Prop where
 le : LentV W F gs (y.vs.take i ++ x.vs.drop i)
 ow : OwV B W (.slice a' n c') y.vs us
 p0 : VwB W P0 x (.slice (some ⟨F, 0, none⟩) n M)
 p1 : VwB W P1 y (.slice a' n c')
 bt : But (fun k => k = F ∨ k ∈ gs) W0 W
theorem LyS.step {W0 wr : World} {B P0 P1 F n M : Nat} {gs : List Nat} {x y : VW} {ga c' : Nat} {us : List Value} {i : Nat} (h : LyS W0 wr B P0 P1 F n M gs x y (some ⟨ga, 0, none⟩) c' us i) (hx : x.vs.length = n) (hy : y.vs.length = n) (hmp : ∀ j (h1 : j < y.vs.length) (h2 : j < x.vs.length), y.vs[j].mp.length = x.vs[j].mp.length) (hi : i < n) (hFB : F < B) (hgB : ∀ g ∈ gs, g < B) (hPF : P0 ≠ F ∧ P1 ≠ F) (hPg : ∀ g ∈ gs, P0 ≠ g ∧ P1 ≠ g) :
  ∃ (v : PV) (G ml c2 M2 : Nat) (a2 : Option Addr), wr.cell? ⟨F, i * 7 + 6, none⟩ = some (.slice (some ⟨G, 0, none⟩) ml M2) ∧ wr.cell? ⟨ga, i * 7 + 6, none⟩ = some (.slice a2 ml c2) ∧
   ∃ w2, (Builtin.copy_ #[36, 36] 3 #[.slice (some ⟨G, 0, none⟩) ml M2, .slice a2 ml c2]).run Tryz.prog wr = .ok (.int .i64 (ml : Int)) w2 ∧
    (w2.cell? ⟨P0, 3, none⟩ = some (.slice (some ⟨F, 0, none⟩) n M) ∧ w2.cell? ⟨P1, 3, none⟩ = some (.slice (some ⟨ga, 0, none⟩) n c')) ∧ (w2.cell? ⟨ga, i * 7, none⟩ = some (.string v.nm) ∧ w2.cell? ⟨ga, i * 7 + 1, none⟩ = some (.int .i64 v.id) ∧ w2.cell? ⟨ga, i * 7 + 2, none⟩ = some (.int .i64 v.sz) ∧ w2.cell? ⟨ga, i * 7 + 3, none⟩ = some (.int .i64 v.og) ∧ w2.cell? ⟨ga, i * 7 + 4, none⟩ = some (.int .i64 v.kd) ∧ w2.cell? ⟨ga, i * 7 + 5, none⟩ = some (.bool v.pt) ∧ w2.cell? ⟨ga, i * 7 + 6, none⟩ = some (.slice a2 ml c2)) ∧
    (∃ v0 v1 v2 v3 v4 v5 v6, w2.cell? ⟨F, i * 7, none⟩ = some v0 ∧ w2.cell? ⟨F, i * 7 + 1, none⟩ = some v1 ∧ w2.cell? ⟨F, i * 7 + 2, none⟩ = some v2 ∧ w2.cell? ⟨F, i * 7 + 3, none⟩ = some v3 ∧ w2.cell? ⟨F, i * 7 + 4, none⟩ = some v4 ∧ w2.cell? ⟨F, i * 7 + 5, none⟩ = some v5 ∧ w2.cell? ⟨F, i * 7 + 6, none⟩ = some v6) ∧ (∀ j, w2.frozen? ⟨F, j, none⟩ = false) ∧ F ≠ P0 ∧
    ∀ Y, Y = (((((((w2.setCell ⟨F, i * 7, none⟩ (.string v.nm)).setCell ⟨F, i * 7 + 1, none⟩ (.int .i64 v.id)).setCell ⟨F, i * 7 + 2, none⟩ (.int .i64 v.sz)).setCell ⟨F, i * 7 + 3, none⟩ (.int .i64 v.og)).setCell ⟨F, i * 7 + 4, none⟩ (.int .i64 v.kd)).setCell ⟨F, i * 7 + 5, none⟩ (.bool v.pt)).setCell ⟨F, i * 7 + 6, none⟩ (.slice a2 ml c2)).drew →
     Y.cell? ⟨P0, 3, none⟩ = some (.slice (some ⟨F, 0, none⟩) n M) ∧ (∃ z, Y.cell? ⟨F, i * 7 + 6, none⟩ = some z) ∧ Y.frozen? ⟨F, i * 7 + 6, none⟩ = false ∧ ∀ Z, Z = Y.setCell ⟨F, i * 7 + 6, none⟩ (.slice (some ⟨G, 0, none⟩) ml M2) → LyS W0 Z B P0 P1 F n M gs x y (some ⟨ga, 0, none⟩) c' us (i + 1) := by
 obtain ⟨hle, how, hp0, hp1, hbt⟩ := h
 have hgl := hle.gl
 have htl : (y.vs.take i).length = i := by rw [List.length_take]; omega
 have hll : (y.vs.take i ++ x.vs.drop i).length = n := by rw [List.length_append, htl, List.length_drop]; omega
 have hig : i < gs.length := by omega
 have hil : i < (y.vs.take i ++ x.vs.drop i).length := by omega
 have hold : (y.vs.take i ++ x.vs.drop i)[i]'hil = x.vs[i]'(by omega) := by
  rw [List.getElem_append_right (by omega), List.getElem_drop]
  congr 1
  omega
 have hvol := hle.vol i hil
 rw [hold] at hvol
 obtain ⟨v, hv⟩ : ∃ v, v = y.vs[i]'(by omega) := ⟨_, rfl⟩
 have hml : v.mp.length = (x.vs[i]'(by omega)).mp.length := by rw [hv]; exact hmp i (by omega) (by omega)
 obtain ⟨a9, c9, e9, hrd, _⟩ := (how.rd)
 rw [hy] at e9
 simp only [Value.slice.injEq] at e9
 obtain ⟨rfl, _, rfl⟩ := e9
 obtain ⟨b, off, e9, _, hc⟩ := hrd.resolve_left (fun e => by rw [e] at hy; simp at hy; omega)
 cases e9
 obtain ⟨a2, c2, hV, hR2, _⟩ := hc i (by omega)
 rw [Nat.zero_add, ← hv] at hV
 rw [← hv] at hR2
 obtain ⟨w2, hrun, hb2, hfin⟩ := hle.lay i hil hig v (by rw [hold]; exact hml) hR2
 have hF := hle.fb.lt
 have hGB := hgB _ (List.getElem_mem hig)
 have hgaB : B ≤ ga := (own_blk how.row (g := ga) rfl).1
 have hgal : ga < wr.heap.size := (own_blk how.row (g := ga) rfl).2.1
 have hGF := hle.lo _ (List.getElem_mem hig)
 have k0 := hp0.keep (hb2.block P0 hp0.lt (hPg _ (List.getElem_mem hig)).1)
 have k1 := hp1.keep (hb2.block P1 hp1.lt (hPg _ (List.getElem_mem hig)).2)
 have hV2 : VolC w2 ga (i * 7) v a2 c2 := by
  obtain ⟨h0, h1, h2, h3, h4, h5, h6⟩ := hV
  have hk := hb2.block ga hgal (by omega)
  exact ⟨(World.cell?_of_block (a := ⟨ga, _, none⟩) hk).trans h0, (World.cell?_of_block (a := ⟨ga, _, none⟩) hk).trans h1, (World.cell?_of_block (a := ⟨ga, _, none⟩) hk).trans h2, (World.cell?_of_block (a := ⟨ga, _, none⟩) hk).trans h3, (World.cell?_of_block (a := ⟨ga, _, none⟩) hk).trans h4, (World.cell?_of_block (a := ⟨ga, _, none⟩) hk).trans h5, (World.cell?_of_block (a := ⟨ga, _, none⟩) hk).trans h6⟩
 have hf2 := hle.fb.keep (hb2.block F hF (by omega))
 have hcs := hf2.cs7 i (by simp; omega)
 refine ⟨v, gs[i], v.mp.length, c2, 2 * v.mp.length + 70, a2, ?_, hV.2.2.2.2.2.2, w2, hrun, ⟨k0.cs.1.2.2.2, k1.cs.1.2.2.2⟩, hV2, hcs, hf2.frozen, fun e => hPF.1 e.symm, fun Y hY => ?_⟩
 ·have := hvol.2.2.2.2.2.2
  rw [← hml] at this
  exact this
 ·have hY' : Y = (at7 w2 F (i * 7) v (.slice a2 v.mp.length c2)).drew := hY
  have bt0 := but_at7 w2 F (i * 7) v (.slice a2 v.mp.length c2)
  have bt : But (fun k => k = F) w2 Y := by rw [hY']; exact bt0.drewR
  have kY0 := k0.keep (w' := Y) (bt.block P0 k0.lt hPF.1)
  have hfY := hf2.set7 i v (.slice a2 v.mp.length c2) (by simp; omega)
  obtain ⟨_, _, _, _, _, _, z6, _, _, _, _, _, _, e6⟩ := hf2.cs7 i (by simp; omega)
  have hYb : BlV Y F ((y.vs.take i ++ x.vs.drop i ++ behs (y.vs.take i ++ x.vs.drop i).length ((y.vs.take i ++ x.vs.drop i).length + 70)).set i v) ((List.zipWith sl (y.vs.take i ++ x.vs.drop i) gs ++ List.replicate ((y.vs.take i ++ x.vs.drop i).length + 70) nilS).set i (.slice a2 v.mp.length c2)) := by
   rw [hY']
   exact hfY.drewR
  obtain ⟨_, _, _, _, _, _, z7, _, _, _, _, _, _, e7⟩ := hYb.cs7 i (by simp; omega)
  refine ⟨kY0.cs.1.2.2.2, ⟨z7, e7⟩, hYb.frozen _, fun Z hZ => ?_⟩
  obtain ⟨hl2, hbtZ⟩ : LentV Z F gs ((y.vs.take i ++ x.vs.drop i).set i v) ∧ But (fun k => k = F) w2 Z := by
   obtain ⟨q1, q2⟩ := hfin ((at7 w2 F (i * 7) v (.slice a2 v.mp.length c2)).setCell ⟨F, i * 7 + 6, none⟩ (.slice (some ⟨gs[i], 0, none⟩) v.mp.length (2 * v.mp.length + 70))) rfl
   have e : Z.heap = ((at7 w2 F (i * 7) v (.slice a2 v.mp.length c2)).setCell ⟨F, i * 7 + 6, none⟩ (.slice (some ⟨gs[i], 0, none⟩) v.mp.length (2 * v.mp.length + 70))).heap := by rw [hZ, hY', heap_drewR]
   refine ⟨⟨q1.gl, q1.fb.keep (by rw [e]), fun j hj => (q1.gb j hj).keep (by rw [e]), q1.nd, q1.lo⟩, ?_⟩
   rw [hZ]
   exact bt.setCell (p := ⟨F, i * 7 + 6, none⟩) rfl _
  have hset : (y.vs.take i ++ x.vs.drop i).set i v = y.vs.take (i + 1) ++ x.vs.drop (i + 1) := by
   rw [set_drop _ _ _ htl.symm (by omega), List.take_succ_eq_append_getElem (by omega), ← hv]
  rw [hset] at hl2
  have hwq : But (fun k => k = F ∨ k ∈ gs) wr w2 := ⟨hb2.os, hb2.tape, hb2.output, hb2.size, fun k hk hx => hb2.block k hk (fun e => hx (.inr (e ▸ List.getElem_mem hig)))⟩
  have hall := hwq.trans (hbtZ.mono (Y := fun k => k = F ∨ k ∈ gs) fun k _ e => .inl e)
  refine ⟨hl2, how.keep fun g hg1 hg2 => hall.block g hg2 (fun e => ?_), hp0.keep (hall.block P0 hp0.lt (fun e => ?_)), hp1.keep (hall.block P1 hp1.lt (fun e => ?_)), hbt.trans hall⟩
  ·rcases e with e | e
   ·omega
   ·have := hgB g e; omega
  ·rcases e with e | e
   ·exact hPF.1 e
   ·exact (hPg _ e).1 rfl
  ·rcases e with e | e
   ·exact hPF.2 e
   ·exact (hPg _ e).2 rfl
end Go.Proofs.YtddddfankeepkaaGreatDoor
namespace Go.Proofs.YtddddfankeepkaaGreatDoor
open Go.RowKit
set_option maxRecDepth 100000 in
set_option maxHeartbeats 8000000 in
theorem Lay_any (x y : VW) (n M B F : Nat) (gs : List Nat) (a' : Option Addr) (c' : Nat) (us : List Value) (w : World) (hx : x.vs.length = n) (hy : y.vs.length = n) (hM : M = 2 * n + 70) (hn : n ≤ 16777216) (hmp : ∀ j (h1 : j < y.vs.length) (h2 : j < x.vs.length), y.vs[j].mp.length = x.vs[j].mp.length) (hL : LentV w F gs x.vs) (hO : OwV B w (.slice a' n c') y.vs us) (hFB : F < B) (hgB : ∀ g ∈ gs, g < B) (hBw : B ≤ w.heap.size) :
  Calls Tryz.prog 19 #[.agg #[.int .i64 x.cp, .int .i64 x.fr, .int .i64 x.nx, .slice (some ⟨F, 0, none⟩) n M], .agg #[.int .i64 y.cp, .int .i64 y.fr, .int .i64 y.nx, .slice a' n c']] w fun e w' => e = .returned (.tuple #[]) ∧ LentV w' F gs y.vs ∧ OwV B w' (.slice a' n c') y.vs us ∧ But (fun k => k = F ∨ k ∈ gs) w w' := by
 obtain ⟨PQ, hPQ⟩ : ∃ PQ : Ending → World → Prop, PQ = fun e w' => e = .returned (.tuple #[]) ∧ LentV w' F gs y.vs ∧ OwV B w' (.slice a' n c') y.vs us ∧ But (fun k => k = F ∨ k ∈ gs) w w' := ⟨_, rfl⟩
 rw [← hPQ]
 have HPQ := hid hPQ
 obtain ⟨P0, hP0⟩ : ∃ P, P = w.heap.size := ⟨_, rfl⟩
 obtain ⟨P1, hP1⟩ : ∃ P, P = w.heap.size + 1 := ⟨_, rfl⟩
 obtain ⟨W0, hW0⟩ : ∃ W0, W0 = (w.alloc (.cells #[.int .i64 x.cp, .int .i64 x.fr, .int .i64 x.nx, .slice (some ⟨F, 0, none⟩) n M] 24)).alloc (.cells #[.int .i64 y.cp, .int .i64 y.fr, .int .i64 y.nx, .slice a' n c'] 24) := ⟨_, rfl⟩
 have b0 : Below w.heap.size w W0 := by rw [hW0]; exact two_below _ _ _
 have v0 : VwB W0 P0 x (.slice (some ⟨F, 0, none⟩) n M) := by
  unfold VwB
  rw [hW0, hP0, Below.heap_alloc _ _ _ (by simp)]
  exact heap_new _ _
 have v1 : VwB W0 P1 y (.slice a' n c') := by
  have := heap_new (w.alloc (.cells #[.int .i64 x.cp, .int .i64 x.fr, .int .i64 x.nx, .slice (some ⟨F, 0, none⟩) n M] 24)) (.cells #[.int .i64 y.cp, .int .i64 y.fr, .int .i64 y.nx, .slice a' n c'] 24)
  rw [World.size_alloc, ← hW0, ← hP1] at this
  exact this
 have HS0 : Hid (LyS W0 W0 B P0 P1 F n M gs x y a' c' us 0) := ⟨by simpa using hL.next b0, hO.next b0, v0, v1, But.refl _ _⟩
 have HST := hid (fun (wr : World) (ga i : Nat) (h : LyS W0 wr B P0 P1 F n M gs x y (some ⟨ga, 0, none⟩) c' us i) (hi : i < n) => h.step hx hy hmp hi hFB hgB ⟨by omega, by omega⟩ (fun g hg => by have := hgB g hg; exact ⟨by omega, by omega⟩))
 have HXY : Hid (x.vs.length = n ∧ y.vs.length = n) := ⟨hx, hy⟩
 have HB0 : Hid (But (fun k => k = F ∨ k ∈ gs) w W0) := But.of_below b0
 have HW0 := hid hW0
 have HPe : Hid (w.heap.size = P0 ∧ w.heap.size + 1 = P1) := ⟨hP0.symm, hP1.symm⟩
 have hMn : (n : Int) ≤ (M : Int) := by omega
 clear hPQ hP0 hP1 hW0 b0 v0 v1 hL hO hFB hgB hBw hx hy hmp hM
 go_enter Tryz.func19, Tryz.ntmps19
 go_wp2_with fail
 rw [← HW0.out, HPe.out.2, HPe.out.1]
 go_loopw [4] (fun iv wr => ∃ i : Nat, iv = .int .i64 (i : Int) ∧ i ≤ n ∧ LyS W0 wr B P0 P1 F n M gs x y a' c' us i) (fun iv _ => n - (intOf iv).toNat)
 case atStart => exact ⟨0, rfl, Nat.zero_le _, HS0.out⟩
 case round =>
  clear HS0
  obtain ⟨i, rfl, hi, hS⟩ := hrel
  obtain ⟨⟨_, _, _, r3⟩, _⟩ := hS.p0.cs
  obtain ⟨⟨_, _, _, s3⟩, _⟩ := hS.p1.cs
  by_cases q : i < n
  ·obtain ⟨ga, rfl⟩ : ∃ ga, a' = some ⟨ga, 0, none⟩ := by
    rcases own_form hS.ow.row with ⟨_, e⟩ | ⟨g, c9, e, _⟩
    ·have := HXY.out.2; omega
    ·simp only [Value.slice.injEq] at e
     exact ⟨g, e.1⟩
   obtain ⟨v, G, ml, c2, M2, a2, d6, e6, w2, hrun, ⟨t0, t1⟩, hv7, ⟨u0, u1, u2, u3, u4, u5, u6, f0, f1, f2, f3, f4, f5, f6⟩, ff, hFP, hfin⟩ := HST.out wr ga i hS q
   have HS6 : Hid ((fun u9 => (u9.cell? ⟨P0, 3, none⟩ = some (.slice (some ⟨F, 0, none⟩) n M) ∧ u9.cell? ⟨P1, 3, none⟩ = some (.slice (some ⟨ga, 0, none⟩) n c')) ∧ u9.cell? ⟨ga, i * 7, none⟩ = some (.string v.nm) ∧ u9.cell? ⟨ga, i * 7 + 1, none⟩ = some (.int .i64 v.id) ∧ u9.cell? ⟨ga, i * 7 + 2, none⟩ = some (.int .i64 v.sz) ∧ u9.cell? ⟨ga, i * 7 + 3, none⟩ = some (.int .i64 v.og) ∧ u9.cell? ⟨ga, i * 7 + 4, none⟩ = some (.int .i64 v.kd) ∧ u9.cell? ⟨ga, i * 7 + 5, none⟩ = some (.bool v.pt) ∧ u9.cell? ⟨ga, i * 7 + 6, none⟩ = some (.slice a2 ml c2)) w2) := ⟨⟨t0, t1⟩, hv7⟩
   have HF := hid hfin
   have HQ := hid q
   have qi : (i : Int) < (n : Int) := by omega
   clear hfin hS hi q HST hv7
   go_upto_region 6 with (refine wpList_copy_run _ rfl _ _ _ _ rfl _ _ rfl rfl _ _ hrun ?_)
   refine wp_region_last (S := (fun u9 => (u9.cell? ⟨P0, 3, none⟩ = some (.slice (some ⟨F, 0, none⟩) n M) ∧ u9.cell? ⟨P1, 3, none⟩ = some (.slice (some ⟨ga, 0, none⟩) n c')) ∧ u9.cell? ⟨ga, i * 7, none⟩ = some (.string v.nm) ∧ u9.cell? ⟨ga, i * 7 + 1, none⟩ = some (.int .i64 v.id) ∧ u9.cell? ⟨ga, i * 7 + 2, none⟩ = some (.int .i64 v.sz) ∧ u9.cell? ⟨ga, i * 7 + 3, none⟩ = some (.int .i64 v.og) ∧ u9.cell? ⟨ga, i * 7 + 4, none⟩ = some (.int .i64 v.kd) ∧ u9.cell? ⟨ga, i * 7 + 5, none⟩ = some (.bool v.pt) ∧ u9.cell? ⟨ga, i * 7 + 6, none⟩ = some (.slice a2 ml c2))) 9 9 (by kernel_rfl) (by kernel_rfl) (by kernel_rfl) HS6.out (fun hSS => ?_)
   refine Ti 0 rfl ?_
   refine Ti 1 rfl ?_
   refine Ti 2 rfl ?_
   refine Ti 3 rfl ?_
   try simp only [Act.put, zA, zB, zC]
   refine Ti 4 rfl ?_
   refine Ti 5 rfl ?_
   refine Ti 6 rfl ?_
   refine Ti 7 rfl ?_
   try simp only [Act.put, zA, zB, zC]
   refine Ti 8 rfl ?_
   try simp only [Act.put, zA, zB, zC]
   refine Dn ?_
   refine last_step (L := 9) (o := ({ dst := none, op := Op.store 38 (Operand.tmp 35) (Operand.tmp 34), type := 0, pos := _, after := _, guard := none } : Oper)) rfl (fun K9 hK9 => ?_)
   go_simp
   refine hK9.out _ _ ?_
   try simp only [Act.put, zA, zB, zC]
   obtain ⟨Y, hY⟩ : ∃ Y, Y = (((((((w2.setCell ⟨F, i * 7, none⟩ (.string v.nm)).setCell ⟨F, i * 7 + 1, none⟩ (.int .i64 v.id)).setCell ⟨F, i * 7 + 2, none⟩ (.int .i64 v.sz)).setCell ⟨F, i * 7 + 3, none⟩ (.int .i64 v.og)).setCell ⟨F, i * 7 + 4, none⟩ (.int .i64 v.kd)).setCell ⟨F, i * 7 + 5, none⟩ (.bool v.pt)).setCell ⟨F, i * 7 + 6, none⟩ (.slice a2 ml c2)).drew := ⟨_, rfl⟩
   rw [← hY]
   obtain ⟨y0, ⟨z6, y6⟩, yf, hfin⟩ := HF.out Y hY
   have HF2 := hid hfin
   clear hY HF hfin t0 t1 u0 u1 u2 u3 u4 u5 u6 f0 f1 f2 f3 f4 f5 f6 ff hrun HS6 d6 e6 r3 s3 hSS
   go_wp2_with fail
   go_roundw
   case rel => exact ⟨i + 1, by go_num, HQ.out, HF2.out _ rfl⟩
   case measure => have := HQ.out; simp [intOf]; omega
  ·have e : i = n := by omega
   have HD : Hid (PQ (.returned (.tuple #[])) wr) := by
    unfold Hid
    rw [HPQ.out]
    obtain ⟨h1, h2, _, _, h5⟩ := hS
    rw [e, List.take_of_length_le (by rw [HXY.out.2]; exact Nat.le_refl _), List.drop_of_length_le (by rw [HXY.out.1]; exact Nat.le_refl _), List.append_nil] at h1
    exact ⟨rfl, h1, h2, HB0.out.trans h5⟩
   have qi : ¬ (i : Int) < (n : Int) := by omega
   clear hS hi q e
   go_wp2_with fail
   go_end0
   exact HD.out
end Go.Proofs.YtddddfankeepkaaGreatDoor
namespace Go.Proofs.YtddddfankeepkaaGreatDoor
open Go.RowKit
theorem take_snoc {L : List Int} {j : Nat} (h : j < L.length) : L.take (j + 1) = L.take j ++ [L[j]?.getD 0] := by
 rw [List.take_add_one]; simp [h]
def zeros (n : Nat) : List Int := List.replicate n 0
theorem length_zeros (n : Nat) : (zeros n).length = n := by simp [zeros]
theorem made_zeros (k : IntKind) (n : Nat) : madeCells #[.int k 0] n = ((zeros n).map (Value.int k)).toArray := by
 rw [← Array.toList_inj, toList_madeCells_one]
 simp [zeros]
set_option maxRecDepth 100000 in
theorem make_u8 (n : Nat) (hn : n ≤ 1073741824) (u : World) : (Instr.makeSlice 40 (.int .i64 (n : Int)) (.int .i64 (n : Int))).run Tryz.prog u =
  .ok (.slice (some ⟨u.heap.size, 0, none⟩) n n) (u.alloc (.cells ((zeros n).map (Value.int .u8)).toArray 5)) := by
 obtain ⟨i0, hi, hz0, hz1, hz2⟩ := info_parts info5
 have h := run_make (P := Tryz.prog) u 40 5 i0 (.int .u8 0) Tryz.underlying40 hi hz0 .i64 .i64 (n : Int) (n : Int) (by omega) (Int.le_refl _) (by rw [hz2]; omega) (by omega)
 have e : ((n : Int)).toNat = n := by omega
 rw [e] at h
 rw [← made_zeros]
 simpa [hz1, Value.cells] using h
def Blk (k : IntKind) (e : TypeId) (w : World) (g : Nat) (zs : List Int) : Prop := w.heap[g]? = some (.cells (zs.map (Value.int k)).toArray e (0, 0))
theorem Blk.lt {k : IntKind} {e : TypeId} {w : World} {g : Nat} {zs : List Int} (h : Blk k e w g zs) : g < w.heap.size := by
 unfold Blk at h
 exact (Array.getElem?_eq_some_iff.1 h).1
theorem Blk.cell {k : IntKind} {e : TypeId} {w : World} {g : Nat} {zs : List Int} (h : Blk k e w g zs) (t : Nat) (ht : t < zs.length) : w.cell? ⟨g, t, none⟩ = some (.int k (zs.getD t 0)) := by
 unfold Blk at h
 simp [World.cell?, h, ht]
theorem Blk.frozen {k : IntKind} {e : TypeId} {w : World} {g : Nat} {zs : List Int} (h : Blk k e w g zs) (t : Nat) : w.frozen? ⟨g, t, none⟩ = false := by
 unfold Blk at h
 simp [World.frozen?, h]
theorem Blk.set {k : IntKind} {e : TypeId} {w : World} {g : Nat} {zs : List Int} (h : Blk k e w g zs) (t : Nat) (x : Int) : Blk k e (w.setCell ⟨g, t, none⟩ (.int k x)) g (zs.set t x) := by
 unfold Blk at *
 simp only [World.setCell, Array.getElem?_modify]
 rw [h]
 simp
theorem Blk.of_block {k : IntKind} {e : TypeId} {w w' : World} {g : Nat} {zs : List Int} (h : Blk k e w g zs) (hw : w'.heap[g]? = w.heap[g]?) : Blk k e w' g zs := by
 unfold Blk at *; rw [hw]; exact h
theorem Blk.drew {k : IntKind} {e : TypeId} {w : World} {g : Nat} {zs : List Int} (h : Blk k e w g zs) : Blk k e w.drew g zs := h
theorem Blk.setOther {k : IntKind} {e : TypeId} {w : World} {g : Nat} {zs : List Int} (h : Blk k e w g zs) {p : Addr} (hp : g ≠ p.block) (u : Value) : Blk k e (w.setCell p u) g zs := h.of_block (Below.heap_setCell _ _ _ _ hp)
theorem Blk.new {k : IntKind} {e : TypeId} (w : World) (zs : List Int) : Blk k e (w.alloc (.cells (zs.map (Value.int k)).toArray e (0, 0))) w.heap.size zs := by
 unfold Blk
 show (w.heap.push _)[w.heap.size]? = _
 simp
theorem But.drew {X : Nat → Prop} {a w : World} (h : But X a w) : But X a w.drew := ⟨h.os, h.tape, h.output, h.size, h.block⟩
theorem But.cell {X : Nat → Prop} {w w' : World} (h : But X w w') {p : Addr} (hp : p.block < w.heap.size) (hx : ¬ X p.block) : w'.cell? p = w.cell? p := World.cell?_of_block (w := w) (h.block p.block hp hx)
theorem Blk.but {k : IntKind} {e : TypeId} {X : Nat → Prop} {w w' : World} {g : Nat} {zs : List Int} (h : Blk k e w g zs) (hb : But X w w') (hg : ¬ X g) : Blk k e w' g zs := h.of_block (hb.block g h.lt hg)
def RdN (X : Nat → Prop) (w : World) (a : Option Addr) (n : Nat) (zs : List Int) : Prop :=
 zs.length = n ∧ Pl.isB zs ∧ (n = 0 ∨ ∃ b off, a = some ⟨b, off, none⟩ ∧ b < w.heap.size ∧ ¬ X b ∧ ∀ t, t < n → w.cell? ⟨b, off + t, none⟩ = some (.int .u8 (zs.getD t 0)))
theorem RdN.rd {X : Nat → Prop} {w : World} {a : Option Addr} {n : Nat} {zs : List Int} (h : RdN X w a n zs) : Rd w.heap.size w a n zs := by
 obtain ⟨h1, h2, h3⟩ := h
 refine ⟨h1, h2, ?_⟩
 rcases h3 with h3 | ⟨b, off, h4, h5, h6, h7⟩
 ·exact .inl h3
 ·exact .inr ⟨b, off, h4, h5, h7⟩
theorem RdN.but {X : Nat → Prop} {w w' : World} {a : Option Addr} {n : Nat} {zs : List Int} (h : RdN X w a n zs) (hb : But X w w') : RdN X w' a n zs := by
 obtain ⟨h1, h2, h3⟩ := h
 refine ⟨h1, h2, ?_⟩
 rcases h3 with h3 | ⟨b, off, h4, h5, h6, h7⟩
 ·exact .inl h3
 ·exact .inr ⟨b, off, h4, Nat.lt_of_lt_of_le h5 hb.size, h6, fun t ht => (hb.cell (by exact h5) (by exact h6)).trans (h7 t ht)⟩
theorem RdN.mono {X Y : Nat → Prop} {w : World} {a : Option Addr} {n : Nat} {zs : List Int} (h : RdN X w a n zs) (hX : ∀ k, k < w.heap.size → Y k → X k) : RdN Y w a n zs := by
 obtain ⟨h1, h2, h3⟩ := h
 refine ⟨h1, h2, ?_⟩
 rcases h3 with h3 | ⟨b, off, h4, h5, h6, h7⟩
 ·exact .inl h3
 ·exact .inr ⟨b, off, h4, h5, fun hy => h6 (hX b h5 hy), h7⟩
theorem RdN.of_rd {B : Nat} {X : Nat → Prop} {w : World} {a : Option Addr} {n : Nat} {zs : List Int} (h : Rd B w a n zs) (hB : B ≤ w.heap.size) (hX : ∀ k, k < B → ¬ X k) : RdN X w a n zs := by
 obtain ⟨h1, h2, h3⟩ := h
 refine ⟨h1, h2, ?_⟩
 rcases h3 with h3 | ⟨b, off, h4, h5, h7⟩
 ·exact .inl h3
 ·exact .inr ⟨b, off, h4, by omega, hX b h5, h7⟩
/-! ### the lender -/
def Lnd (w : World) (L : Nat) (bv : Value) (N : Int) : Prop := w.heap[L]? = some (.cells #[bv, .int .i64 N] 44 (0, 0))
theorem Lnd.lt {w : World} {L : Nat} {bv : Value} {N : Int} (h : Lnd w L bv N) : L < w.heap.size := (Array.getElem?_eq_some_iff.1 h).1
theorem Lnd.buf {w : World} {L : Nat} {bv : Value} {N : Int} (h : Lnd w L bv N) : w.cell? ⟨L, 0, none⟩ = some bv := by unfold Lnd at h; simp [World.cell?, h]
theorem Lnd.num {w : World} {L : Nat} {bv : Value} {N : Int} (h : Lnd w L bv N) : w.cell? ⟨L, 1, none⟩ = some (.int .i64 N) := by unfold Lnd at h; simp [World.cell?, h]
theorem Lnd.frozen {w : World} {L : Nat} {bv : Value} {N : Int} (h : Lnd w L bv N) (t : Nat) : w.frozen? ⟨L, t, none⟩ = false := by unfold Lnd at h; simp [World.frozen?, h]
theorem Lnd.of_block {w w' : World} {L : Nat} {bv : Value} {N : Int} (h : Lnd w L bv N) (hw : w'.heap[L]? = w.heap[L]?) : Lnd w' L bv N := by unfold Lnd at *; rw [hw]; exact h
theorem Lnd.setOther {w : World} {L : Nat} {bv : Value} {N : Int} (h : Lnd w L bv N) {p : Addr} (hp : L ≠ p.block) (u : Value) : Lnd (w.setCell p u) L bv N := h.of_block (Below.heap_setCell _ _ _ _ hp)
theorem Lnd.alloc {w : World} {L : Nat} {bv : Value} {N : Int} (h : Lnd w L bv N) (o : Obj) : Lnd (w.alloc o) L bv N := h.of_block (Below.heap_alloc _ _ _ h.lt)
theorem Lnd.setBuf {w : World} {L : Nat} {bv : Value} {N : Int} (h : Lnd w L bv N) (u : Value) : Lnd (w.setCell ⟨L, 0, none⟩ u) L u N := by
 unfold Lnd at *
 simp only [World.setCell, Array.getElem?_modify]
 rw [h]
 simp
theorem Lnd.setNum {w : World} {L : Nat} {bv : Value} {N : Int} (h : Lnd w L bv N) (u : Int) : Lnd (w.setCell ⟨L, 1, none⟩ (.int .i64 u)) L bv u := by
 unfold Lnd at *
 simp only [World.setCell, Array.getElem?_modify]
 rw [h]
 simp
def mk (i : Nat) : Int := (203 - 5 * (i : Int)) % 256
def lent (zs : List Int) : List Int := zs ++ (List.range (zs.length + 70)).map fun i => mk (zs.length + i)
theorem length_lent (zs : List Int) : (lent zs).length = 2 * zs.length + 70 := by simp [lent]; omega
theorem lent_lo {zs : List Int} {k : Nat} (h : k < zs.length) : (lent zs).getD k 0 = zs.getD k 0 := by
 simp [lent, h, List.getElem?_append_left]
theorem lent_hi {zs : List Int} {k : Nat} (h : zs.length ≤ k) (h2 : k < 2 * zs.length + 70) : (lent zs).getD k 0 = mk k := by
 have h3 : k - zs.length < zs.length + 70 := by omega
 simp [lent, List.getElem?_append_right h, h3]
 congr 1
 omega
theorem take_set {ys : List Int} {k : Nat} {z : Int} {l : List Int} (h : k < ys.length) (h2 : k < l.length) (he : ys.take k = l.take k) (hz : z = l.getD k 0) : (ys.set k z).take (k + 1) = l.take (k + 1) := by
 rw [take_snoc (L := l) h2, ← he, List.take_succ_eq_append_getElem (by simpa using h), List.take_set_of_le (Nat.le_refl _), hz]
 simp
set_option maxHeartbeats 400000 in
theorem mark_any (p : Value) (i : Nat) (w : World) (h : i ≤ 1073741824) :
  Calls Tryz.prog 37 #[p, .int .i64 (i : Int)] w fun e w' => e = .returned (.int .u8 (mk i)) ∧ w' = w := by
 go_enter Tryz.func37, Tryz.ntmps37
 go_wp2
 go_ret
 exact ⟨rfl, rfl⟩
end Go.Proofs.YtddddfankeepkaaGreatDoor
namespace Go.Proofs.YtddddfankeepkaaGreatDoor
open Go.RowKit
theorem But.comp {X Y : Nat → Prop} {a b c : World} (h : But X a b) (k : But Y b c) (hY : ∀ x, x < a.heap.size → Y x → X x) : But X a c :=
 ⟨k.os.trans h.os, k.tape.trans h.tape, k.output.trans h.output, Nat.le_trans h.size k.size, fun i hi hx => (k.block i (Nat.lt_of_lt_of_le hi h.size) (fun hy => hx (hY i hi hy))).trans (h.block i hi hx)⟩
set_option maxRecDepth 100000 in
set_option maxHeartbeats 1000000 in
theorem Lend_old (L G M : Nat) (N : Int) (a : Option Addr) (n c : Nat) (ys0 zs : List Int) (w : World) (hn : n ≤ 16777216) (hB0 : Blk .u8 5 w G ys0) (hl0 : ys0.length = M) (hL0 : Lnd w L (.slice (some ⟨G, 0, none⟩) M M) N) (hGL : L ≠ G) (hM : 2 * n + 70 ≤ M) (hM2 : M ≤ 1073741824)
  (hR : RdN (fun x => x = L ∨ x = G) w a n zs) :
  Calls Tryz.prog 16 #[.pointer (some ⟨L, 0, none⟩), .slice a n c] w fun e w' => ∃ (G' M' : Nat) (ys : List Int), e = .returned (.slice (some ⟨G', 0, none⟩) n (2 * n + 70)) ∧ Blk .u8 5 w' G' ys ∧ ys.length = M' ∧ ys.take (2 * n + 70) = lent zs ∧ Lnd w' L (.slice (some ⟨G', 0, none⟩) M' M') n ∧ G' = G ∧ M' = M ∧ But (fun x => x = L ∨ x = G) w w' := by
 obtain ⟨hzl, hzb, hsrc⟩ := hR
 obtain ⟨W, hW⟩ : ∃ W, W = w := ⟨_, rfl⟩
 subst hW
 have hbuf0 := hL0.buf
 have hlt : ¬ ((M : Int) < 2 * (n : Int) + 70) := by omega
 go_enter Tryz.func16, Tryz.ntmps16
 go_wp2
 clear hbuf0 hlt
 go_loopw [5] (fun i wt => ∃ (k : Nat) (ys : List Int), k ≤ n ∧ i = .int .i64 (k : Int) ∧ Blk .u8 5 wt G ys ∧ ys.length = M ∧ ys.take k = (lent zs).take k ∧ Lnd wt L (.slice (some ⟨G, 0, none⟩) M M) N ∧ But (fun x => x = L ∨ x = G) W wt) (fun i _ => n - (intOf i).toNat)
 case atStart => exact ⟨0, ys0, Nat.zero_le _, rfl, hB0, hl0, rfl, hL0, But.refl _ _⟩
 case round =>
  obtain ⟨k, ys, hk, rfl, hB, hyl, htk, hL, hbt⟩ := hrel
  by_cases hkn : k < n
  ·obtain ⟨b, off, rfl, hb, hbx, hc⟩ := hsrc.resolve_left (by omega)
   have hcs := (hbt.cell (p := ⟨b, off + k, none⟩) hb hbx).trans (hc k hkn)
   have hbuf := hL.buf
   have hcell := hB.cell k (by omega)
   have hfr := hB.frozen k
   have hk1 : (k : Int) < (n : Int) := by omega
   have hk2 : (k : Int) < (M : Int) := by omega
   have HB := hid (hB.set k (zs.getD k 0))
   have HT := hid (take_set (ys := ys) (k := k) (z := zs.getD k 0) (l := lent zs) (by omega) (by rw [length_lent]; omega) htk (lent_lo (by omega)).symm)
   have HL := hid (hL.setOther (p := ⟨G, k, none⟩) (by exact hGL) (.int .u8 (zs.getD k 0)))
   have Hb := hid (hbt.setCell (p := ⟨G, k, none⟩) (.inr rfl) (.int .u8 (zs.getD k 0)))
   have Hyl := hid hyl
   generalize ys.getD k 0 = old at *
   generalize zs.getD k 0 = z at *
   clear hB htk hL hbt hc hyl hsrc
   go_wp2
   go_region
   all_goals go_wp2
   all_goals
    go_roundw
    case rel => exact ⟨k + 1, _, by omega, by go_num, HB.out.drew, by simpa using Hyl.out, HT.out, HL.out, Hb.out.drew⟩
    case measure => simp [intOf]; omega
  ·have e : k = n := by omega
   subst e
   clear hkn hk
   go_wp2
   go_loopw [6] (fun i wt => ∃ (j : Nat) (ys : List Int), k ≤ j ∧ j ≤ 2 * k + 70 ∧ i = .int .i64 (j : Int) ∧ Blk .u8 5 wt G ys ∧ ys.length = M ∧ ys.take j = (lent zs).take j ∧ Lnd wt L (.slice (some ⟨G, 0, none⟩) M M) N ∧ But (fun x => x = L ∨ x = G) W wt) (fun i _ => 2 * k + 70 - (intOf i).toNat)
   case atStart => exact ⟨k, ys, Nat.le_refl _, by omega, rfl, hB, hyl, htk, hL, hbt⟩
   case round =>
    clear hB htk hL hbt hyl ys
    obtain ⟨j, ys, hj1, hj2, rfl, hB, hyl, htk, hL, hbt⟩ := hrel
    by_cases hjn : j < 2 * k + 70
    ·have hbuf := hL.buf
     have hcell := hB.cell j (by omega)
     have hfr := hB.frozen j
     have hk2 : (j : Int) < (M : Int) := by omega
     have HB := hid (hB.set j (mk j))
     have HT := hid (take_set (ys := ys) (k := j) (z := mk j) (l := lent zs) (by omega) (by rw [length_lent]; omega) htk (lent_hi (by omega) (by omega)).symm)
     have HL := hid (hL.setOther (p := ⟨G, j, none⟩) (by exact hGL) (.int .u8 (mk j)))
     have Hb := hid (hbt.setCell (p := ⟨G, j, none⟩) (.inr rfl) (.int .u8 (mk j)))
     have Hyl := hid hyl
     generalize ys.getD j 0 = old at *
     clear hB htk hL hbt hyl hsrc
     go_wp2_with fail
     go_region_with (go_at_call 37; refine (mark_any _ j _ (by omega)).mono ?_; rintro e w1 ⟨rfl, rfl⟩)
     all_goals go_wp2
     all_goals
      go_roundw
      case rel => exact ⟨j + 1, _, by omega, by omega, by go_num, HB.out.drew, by simpa using Hyl.out, HT.out, HL.out, Hb.out.drew⟩
      case measure => simp [intOf]; omega
    ·have e : j = 2 * k + 70 := by omega
     subst e
     have hbuf := hL.buf
     have hnum := hL.num
     have hfr := hL.frozen 1
     have HB := hid hB
     have HL := hid (hL.setNum k)
     have Hb := hid (hbt.setCell (p := ⟨L, 1, none⟩) (.inl rfl) (.int .i64 (k : Int)))
     have HT : Hid (ys.take (2 * k + 70) = lent zs) := by
      show _ = _
      rw [htk, List.take_of_length_le (by rw [length_lent]; omega)]
     have Hyl := hid hyl
     clear hB hL hbt htk hyl hsrc
     go_wp2
     go_ret
     exact ⟨G, M, ys, rfl, HB.out.setOther (Ne.symm hGL) _, Hyl.out, HT.out, HL.out, rfl, rfl, Hb.out⟩
set_option maxRecDepth 100000 in
set_option maxHeartbeats 1000000 in
theorem Lend_new (L : Nat) (a0 : Option Addr) (m0 c0 : Nat) (N : Int) (a : Option Addr) (n c : Nat) (zs : List Int) (w : World) (hn : n ≤ 16777216) (hL0 : Lnd w L (.slice a0 m0 c0) N) (hM : m0 < 2 * n + 70)
  (hR : RdN (fun x => x = L) w a n zs) :
  Calls Tryz.prog 16 #[.pointer (some ⟨L, 0, none⟩), .slice a n c] w fun e w' => ∃ (G' M' : Nat) (ys : List Int), e = .returned (.slice (some ⟨G', 0, none⟩) n (2 * n + 70)) ∧ Blk .u8 5 w' G' ys ∧ ys.length = M' ∧ ys.take (2 * n + 70) = lent zs ∧ Lnd w' L (.slice (some ⟨G', 0, none⟩) M' M') n ∧ G' = w.heap.size ∧ M' = 4 * n + 512 ∧ But (fun x => x = L) w w' := by
 have hmk := make_u8 (4 * n + 512) (by omega)
 have hcast : (((4 * n + 512 : Nat) : Nat) : Int) = 4 * (n : Int) + 512 := by omega
 rw [hcast] at hmk
 have hbuf0 := hL0.buf
 have hfr0 := hL0.frozen 0
 have hlt : ((m0 : Int) < 2 * (n : Int) + 70) := by omega
 have hLs := hL0.lt
 have HL0 := hid ((hL0.setBuf (.slice (some ⟨w.heap.size, 0, none⟩) (4 * n + 512) (4 * n + 512))).alloc (.cells ((zeros (4 * n + 512)).map (Value.int .u8)).toArray 5))
 have HB0 : Hid (Blk .u8 5 ((w.setCell ⟨L, 0, none⟩ (.slice (some ⟨w.heap.size, 0, none⟩) (4 * n + 512) (4 * n + 512))).alloc (.cells ((zeros (4 * n + 512)).map (Value.int .u8)).toArray 5)) w.heap.size (zeros (4 * n + 512))) := by
  have h := Blk.new (k := .u8) (e := 5) (w.setCell ⟨L, 0, none⟩ (.slice (some ⟨w.heap.size, 0, none⟩) (4 * n + 512) (4 * n + 512))) (zeros (4 * n + 512))
  rw [show (w.setCell ⟨L, 0, none⟩ (.slice (some ⟨w.heap.size, 0, none⟩) (4 * n + 512) (4 * n + 512))).heap.size = w.heap.size from by simp [World.setCell]] at h
  exact h
 have Hb0 := hid (((But.refl (fun x => x = L) w).setCell (p := ⟨L, 0, none⟩) rfl (.slice (some ⟨w.heap.size, 0, none⟩) (4 * n + 512) (4 * n + 512))).alloc (.cells ((zeros (4 * n + 512)).map (Value.int .u8)).toArray 5))
 have hl0 := length_zeros (4 * n + 512)
 have HG := hid hLs
 clear hL0
 go_enter Tryz.func16, Tryz.ntmps16
 go_wp2
 have hR1 := hR.but Hb0.out
 have hL0 := HL0.out
 have hB0 := HB0.out
 have hGL : L ≠ w.heap.size := by omega
 have hRY : RdN (fun x => x = L ∨ x = w.heap.size) ((w.setCell ⟨L, 0, none⟩ (.slice (some ⟨w.heap.size, 0, none⟩) (4 * n + 512) (4 * n + 512))).alloc (.cells ((zeros (4 * n + 512)).map (Value.int .u8)).toArray 5)) a n zs := by
  obtain ⟨q1, q2, q3⟩ := hR
  obtain ⟨_, _, r3⟩ := hR1
  refine ⟨q1, q2, ?_⟩
  rcases q3 with q3 | ⟨b, off, rfl, hb, hx, _⟩
  ·exact .inl q3
  ·rcases r3 with r3 | ⟨b', off', e', hb', hx', hc'⟩
   ·exact .inl r3
   ·simp at e'
    obtain ⟨rfl, rfl⟩ := e'
    exact .inr ⟨b, off, rfl, hb', by omega, hc'⟩
 clear HL0 HB0 hmk hbuf0 hfr0 hlt hcast hR hR1 HG
 have HW := hid hLs
 generalize ((w.setCell ⟨L, 0, none⟩ (.slice (some ⟨w.heap.size, 0, none⟩) (4 * n + 512) (4 * n + 512))).alloc (.cells ((zeros (4 * n + 512)).map (Value.int .u8)).toArray 5)) = W at *
 generalize zeros (4 * n + 512) = ys0 at *
 obtain ⟨hzl, hzb, hsrc⟩ := hRY
 have hM : 2 * n + 70 ≤ 4 * n + 512 := by omega
 have hM2 : 4 * n + 512 ≤ 1073741824 := by omega
 generalize hGG : w.heap.size = G at *
 generalize hMM : 4 * n + 512 = M at *
 have HGG := hid hGG
 have HMM := hid hMM
 clear hGG hMM
 go_loopw [5] (fun i wt => ∃ (k : Nat) (ys : List Int), k ≤ n ∧ i = .int .i64 (k : Int) ∧ Blk .u8 5 wt G ys ∧ ys.length = M ∧ ys.take k = (lent zs).take k ∧ Lnd wt L (.slice (some ⟨G, 0, none⟩) M M) N ∧ But (fun x => x = L ∨ x = G) W wt) (fun i _ => n - (intOf i).toNat)
 case atStart => exact ⟨0, ys0, Nat.zero_le _, rfl, hB0, hl0, rfl, hL0, But.refl _ _⟩
 case round =>
  obtain ⟨k, ys, hk, rfl, hB, hyl, htk, hL, hbt⟩ := hrel
  by_cases hkn : k < n
  ·obtain ⟨b, off, rfl, hb, hbx, hc⟩ := hsrc.resolve_left (by omega)
   have hcs := (hbt.cell (p := ⟨b, off + k, none⟩) hb hbx).trans (hc k hkn)
   have hbuf := hL.buf
   have hcell := hB.cell k (by omega)
   have hfr := hB.frozen k
   have hk1 : (k : Int) < (n : Int) := by omega
   have hk2 : (k : Int) < (M : Int) := by omega
   have HB := hid (hB.set k (zs.getD k 0))
   have HT := hid (take_set (ys := ys) (k := k) (z := zs.getD k 0) (l := lent zs) (by omega) (by rw [length_lent]; omega) htk (lent_lo (by omega)).symm)
   have HL := hid (hL.setOther (p := ⟨G, k, none⟩) (by exact hGL) (.int .u8 (zs.getD k 0)))
   have Hb := hid (hbt.setCell (p := ⟨G, k, none⟩) (.inr rfl) (.int .u8 (zs.getD k 0)))
   have Hyl := hid hyl
   generalize ys.getD k 0 = old at *
   generalize zs.getD k 0 = z at *
   clear hB htk hL hbt hc hyl hsrc
   go_wp2
   go_region
   all_goals go_wp2
   all_goals
    go_roundw
    case rel => exact ⟨k + 1, _, by omega, by go_num, HB.out.drew, by simpa using Hyl.out, HT.out, HL.out, Hb.out.drew⟩
    case measure => simp [intOf]; omega
  ·have e : k = n := by omega
   subst e
   clear hkn hk
   go_wp2
   go_loopw [6] (fun i wt => ∃ (j : Nat) (ys : List Int), k ≤ j ∧ j ≤ 2 * k + 70 ∧ i = .int .i64 (j : Int) ∧ Blk .u8 5 wt G ys ∧ ys.length = M ∧ ys.take j = (lent zs).take j ∧ Lnd wt L (.slice (some ⟨G, 0, none⟩) M M) N ∧ But (fun x => x = L ∨ x = G) W wt) (fun i _ => 2 * k + 70 - (intOf i).toNat)
   case atStart => exact ⟨k, ys, Nat.le_refl _, by omega, rfl, hB, hyl, htk, hL, hbt⟩
   case round =>
    clear hB htk hL hbt hyl ys
    obtain ⟨j, ys, hj1, hj2, rfl, hB, hyl, htk, hL, hbt⟩ := hrel
    by_cases hjn : j < 2 * k + 70
    ·have hbuf := hL.buf
     have hcell := hB.cell j (by omega)
     have hfr := hB.frozen j
     have hk2 : (j : Int) < (M : Int) := by omega
     have HB := hid (hB.set j (mk j))
     have HT := hid (take_set (ys := ys) (k := j) (z := mk j) (l := lent zs) (by omega) (by rw [length_lent]; omega) htk (lent_hi (by omega) (by omega)).symm)
     have HL := hid (hL.setOther (p := ⟨G, j, none⟩) (by exact hGL) (.int .u8 (mk j)))
     have Hb := hid (hbt.setCell (p := ⟨G, j, none⟩) (.inr rfl) (.int .u8 (mk j)))
     have Hyl := hid hyl
     generalize ys.getD j 0 = old at *
     clear hB htk hL hbt hyl hsrc
     go_wp2_with fail
     go_region_with (go_at_call 37; refine (mark_any _ j _ (by omega)).mono ?_; rintro e w1 ⟨rfl, rfl⟩)
     all_goals go_wp2
     all_goals
      go_roundw
      case rel => exact ⟨j + 1, _, by omega, by omega, by go_num, HB.out.drew, by simpa using Hyl.out, HT.out, HL.out, Hb.out.drew⟩
      case measure => simp [intOf]; omega
    ·have e : j = 2 * k + 70 := by omega
     subst e
     have hbuf := hL.buf
     have hnum := hL.num
     have hfr := hL.frozen 1
     have HB := hid hB
     have HL := hid (hL.setNum k)
     have Hb := hid (hbt.setCell (p := ⟨L, 1, none⟩) (.inl rfl) (.int .i64 (k : Int)))
     have HT : Hid (ys.take (2 * k + 70) = lent zs) := by
      show _ = _
      rw [htk, List.take_of_length_le (by rw [length_lent]; omega)]
     have Hyl := hid hyl
     clear hB hL hbt htk hyl hsrc
     go_wp2
     go_ret
     exact ⟨G, M, ys, rfl, HB.out.setOther (Ne.symm hGL) _, Hyl.out, HT.out, HL.out, HGG.out.symm, HMM.out.symm, Hb0.out.comp Hb.out (fun x hx h => h.elim id (fun h => absurd h (by have := HGG.out; omega)))⟩
end Go.Proofs.YtddddfankeepkaaGreatDoor
namespace Go.Proofs.YtddddfankeepkaaGreatDoor
open Go.RowKit
theorem Lnd.but {X : Nat → Prop} {w w' : World} {L : Nat} {bv : Value} {N : Int} (h : Lnd w L bv N) (hb : But X w w') (hx : ¬ X L) : Lnd w' L bv N := h.of_block (hb.block L h.lt hx)
theorem But.drewN {X : Nat → Prop} {a w : World} (h : But X a w) (q : Nat) : But X a (w.drewN q) := ⟨h.os, h.tape, h.output, h.size, h.block⟩
set_option maxRecDepth 100000 in
set_option maxHeartbeats 1000000 in
theorem Back_ok (L G M : Nat) (a : Option Addr) (n c : Nat) (ys zs : List Int) (w : World) (hn : n ≤ 16777216) (hB : Blk .u8 5 w G ys) (hyl : ys.length = M) (hyt : ys.take (2 * n + 70) = lent zs) (hL : Lnd w L (.slice (some ⟨G, 0, none⟩) M M) n) (hGL : L ≠ G) (hM : 2 * n + 70 ≤ M) (hM2 : M ≤ 1073741824)
  (hR : RdN (fun x => x = L ∨ x = G) w a n zs) :
  Calls Tryz.prog 22 #[.pointer (some ⟨L, 0, none⟩), .slice a n c] w fun e w' => ∃ ys', e = .returned (.bool true) ∧ Blk .u8 5 w' G ys' ∧ ys'.length = M ∧ Lnd w' L (.slice (some ⟨G, 0, none⟩) M M) n ∧ But (fun x => x = G) w w' := by
 have hzl := hR.1
 have hget : ∀ j, j < 2 * n + 70 → ys.getD j 0 = (lent zs).getD j 0 := by
  intro j hj
  rw [← hyt, List.getD_eq_getElem?_getD, List.getD_eq_getElem?_getD, List.getElem?_take_of_lt hj]
 have r1 : ∀ q, Rd w.heap.size (w.drewN q) (some ⟨G, 0, none⟩) n zs := fun q => ⟨hzl, hR.2.1, .inr ⟨G, 0, rfl, hB.lt, fun t ht => by
  have h := hB.cell t (by omega)
  rw [hget t (by omega), lent_lo (by omega)] at h
  rw [Nat.zero_add]
  exact h⟩⟩
 have e1 := fun q => conv_strS (r1 q) M
 have e2 : ∀ q, (convert 40 9 (.slice a n c)).run Tryz.prog (w.drewN q) = .ok (.string (strOfNums zs)) (w.drewN q) := fun q => conv_strS (hR.but ((But.refl _ w).drewN q)).rd c
 have hbuf := hL.buf
 have hnum := hL.num
 have hnM : (n : Int) ≤ (M : Int) := by omega
 have HR := hid hR
 have HG := hid hget
 clear hR hget r1
 generalize strOfNums zs = s at *
 go_enter Tryz.func22, Tryz.ntmps22
 go_wp2_with fail
 go_quiet (fail)
 go_wp2
 clear e1 e2 hbuf hnum
 go_loopw [5, 6] (fun ok i wt => ∃ j : Nat, n ≤ j ∧ j ≤ 2 * n + 70 ∧ i = .int .i64 (j : Int) ∧ ok = .bool true ∧ But (fun _ => False) w wt) (fun _ i _ => 2 * n + 70 - (intOf i).toNat)
 case atStart => exact ⟨n, Nat.le_refl _, by omega, rfl, by simp, (But.refl _ _).drewN _⟩
 case round =>
  obtain ⟨j, hj1, hj2, rfl, rfl, hbt⟩ := hrel
  have hL2 := hL.but hbt (fun h => h)
  have hnum := hL2.num
  have hbuf := hL2.buf
  by_cases hjn : j < 2 * n + 70
  ·have hcell := (hB.but hbt (fun h => h)).cell j (by omega)
   rw [HG.out j hjn, lent_hi (by omega) (by omega)] at hcell
   have hk2 : (j : Int) < (M : Int) := by omega
   go_wp2_with fail
   go_quiet ((go_at_call 37; exact Calls.quiet_of_same (mark_any _ _ _ (by omega))))
   go_wp2
   go_roundw
   case rel => exact ⟨j + 1, by omega, by omega, by go_num, by simp, hbt.drewN _⟩
   case measure => simp [intOf]; omega
  ·have HB := hid (hB.but hbt (fun h => h))
   have Hyl := hid hyl
   have HL := hid hL2
   have Hb := hid (hbt.mono (Y := fun x => x = G) (fun _ _ h => h.elim))
   clear hB hyl hL hL2 hbt
   go_wp2
   go_loopw [7] (fun i wt => ∃ (k : Nat) (ys' : List Int), k ≤ n ∧ i = .int .i64 (k : Int) ∧ Blk .u8 5 wt G ys' ∧ ys'.length = M ∧ Lnd wt L (.slice (some ⟨G, 0, none⟩) M M) n ∧ But (fun x => x = G) w wt) (fun i _ => n - (intOf i).toNat)
   case atStart => exact ⟨0, ys, Nat.zero_le _, rfl, HB.out, Hyl.out, HL.out, Hb.out⟩
   case round =>
    clear HB Hyl HL Hb hnum hbuf
    obtain ⟨k, ys', hk, rfl, hB, hyl, hL, hbt⟩ := hrel
    have hnum := hL.num
    have hbuf := hL.buf
    by_cases hkn : k < n
    ·have hcell := hB.cell k (by omega)
     have hfr := hB.frozen k
     have hk2 : (k : Int) < (M : Int) := by omega
     have HB := hid (hB.set k 120)
     have Hyl := hid hyl
     have HL := hid (hL.setOther (p := ⟨G, k, none⟩) (by exact hGL) (.int .u8 120))
     have Hb := hid (hbt.setCell (p := ⟨G, k, none⟩) rfl (.int .u8 120))
     clear hB hyl hL hbt
     go_wp2
     go_roundw
     case rel => exact ⟨k + 1, _, by omega, by go_num, HB.out, by simpa using Hyl.out, HL.out, Hb.out⟩
     case measure => simp [intOf]; omega
    ·have HB := hid hB
     have Hyl := hid hyl
     have HL := hid hL
     clear hB hyl hL
     go_wp2
     go_ret
     exact ⟨ys', rfl, HB.out, Hyl.out, HL.out, hbt⟩
end Go.Proofs.YtddddfankeepkaaGreatDoor
namespace Go.Proofs.YtddddfankeepkaaGreatDoor
open Go.RowKit
def XL (L : Nat) (bv : Value) (x : Nat) : Prop := x = L ∨ bv.ownBlock = some x
def LS (w : World) (L : Nat) (bv : Value) : Prop :=
 (∃ N, Lnd w L bv N) ∧ (bv = .slice none 0 0 ∨ ∃ G M ys, bv = .slice (some ⟨G, 0, none⟩) M M ∧ L ≠ G ∧ Blk .u8 5 w G ys ∧ ys.length = M ∧ M ≤ 67109376)
theorem LS.but {X : Nat → Prop} {w w' : World} {L : Nat} {bv : Value} (h : LS w L bv) (hb : But X w w') (hx : ∀ x, XL L bv x → ¬ X x) : LS w' L bv := by
 obtain ⟨⟨N, h1⟩, h2⟩ := h
 refine ⟨⟨N, h1.but hb (hx L (.inl rfl))⟩, ?_⟩
 rcases h2 with h2 | ⟨G, M, ys, rfl, h3, h4, h5, h6⟩
 ·exact .inl h2
 ·exact .inr ⟨G, M, ys, rfl, h3, h4.but hb (hx G (.inr rfl)), h5, h6⟩
theorem LS.there {w : World} {L : Nat} {bv : Value} (h : LS w L bv) {x : Nat} (hx : XL L bv x) : x < w.heap.size := by
 obtain ⟨⟨N, h1⟩, h2⟩ := h
 rcases hx with rfl | hx
 ·exact h1.lt
 ·rcases h2 with rfl | ⟨G, M, ys, rfl, h3, h4, h5, h6⟩
  ·cases hx
  ·cases hx; exact h4.lt
structure Lent (w : World) (L G M n : Nat) (zs : List Int) : Prop where
 num : Lnd w L (.slice (some ⟨G, 0, none⟩) M M) n
 ne : L ≠ G
 big : 2 * n + 70 ≤ M
 small : M ≤ 67109376
 buf : ∃ ys, Blk .u8 5 w G ys ∧ ys.length = M ∧ ys.take (2 * n + 70) = lent zs
theorem LLend_any (L : Nat) (bv : Value) (a : Option Addr) (n c : Nat) (zs : List Int) (w : World) (hn : n ≤ 16777216) (hS : LS w L bv) (hR : RdN (XL L bv) w a n zs) :
  Calls Tryz.prog 16 #[.pointer (some ⟨L, 0, none⟩), .slice a n c] w fun e w' => ∃ G M, e = .returned (.slice (some ⟨G, 0, none⟩) n (2 * n + 70)) ∧ Lent w' L G M n zs ∧ (bv.ownBlock = some G ∨ w.heap.size ≤ G) ∧ But (XL L bv) w w' := by
 obtain ⟨⟨N, h1⟩, h2⟩ := hS
 rcases h2 with rfl | ⟨G, M, ys, rfl, h3, h4, h5, h6⟩
 ·refine (Lend_new L none 0 0 N a n c zs w hn h1 (by omega) (hR.mono (fun x _ h => .inl h))).mono ?_
  rintro e w' ⟨G, M, ys, he, hB, hl, ht, hL, hG, hM, hb⟩
  have := h1.lt
  exact ⟨G, M, he, ⟨hL, by omega, by omega, by omega, ys, hB, hl, ht⟩, .inr (by omega), hb.mono (fun x _ h => .inl h)⟩
 ·by_cases hM : M < 2 * n + 70
  ·refine (Lend_new L (some ⟨G, 0, none⟩) M M N a n c zs w hn h1 hM (hR.mono (fun x _ h => .inl h))).mono ?_
   rintro e w' ⟨G', M', ys', he, hB, hl, ht, hL, hG, hM', hb⟩
   have := h1.lt
   exact ⟨G', M', he, ⟨hL, by omega, by omega, by omega, ys', hB, hl, ht⟩, .inr (by omega), hb.mono (fun x _ h => .inl h)⟩
  ·have hx : ∀ x, (x = L ∨ x = G) → XL L (.slice (some ⟨G, 0, none⟩) M M) x := fun x h => h.imp id (fun h => by rw [h]; rfl)
   refine (Lend_old L G M N a n c ys zs w hn h4 h5 h1 h3 (by omega) (by omega) (hR.mono (fun x _ h => hx x h))).mono ?_
   rintro e w' ⟨G', M', ys', he, hB, hl, ht, hL, rfl, rfl, hb⟩
   exact ⟨G', M', he, ⟨hL, h3, by omega, h6, ys', hB, hl, ht⟩, .inl rfl, hb.mono (fun x _ h => hx x h)⟩
theorem Lent.but {X : Nat → Prop} {w w' : World} {L G M n : Nat} {zs : List Int} (h : Lent w L G M n zs) (hb : But X w w') (h1 : ¬ X L) (h2 : ¬ X G) : Lent w' L G M n zs := by
 obtain ⟨ys, hB, hl, ht⟩ := h.buf
 exact ⟨h.num.but hb h1, h.ne, h.big, h.small, ys, hB.but hb h2, hl, ht⟩
theorem Lent.below {w w' : World} {L G M n : Nat} {zs : List Int} (h : Lent w L G M n zs) (hb : Below w.heap.size w w') : Lent w' L G M n zs :=
 h.but (But.of_below (X := fun _ => False) hb) (fun h => h) (fun h => h)
theorem LBack_any (L G M : Nat) (a : Option Addr) (n c : Nat) (zs : List Int) (w : World) (hn : n ≤ 16777216) (hS : Lent w L G M n zs) (hR : RdN (fun x => x = L ∨ x = G) w a n zs) :
  Calls Tryz.prog 22 #[.pointer (some ⟨L, 0, none⟩), .slice a n c] w fun e w' => e = .returned (.bool true) ∧ LS w' L (.slice (some ⟨G, 0, none⟩) M M) ∧ But (fun x => x = G) w w' := by
 obtain ⟨ys, hB, hl, ht⟩ := hS.buf
 have hs := hS.small
 refine (Back_ok L G M a n c ys zs w hn hB hl ht hS.num hS.ne hS.big (by omega) hR).mono ?_
 rintro e w' ⟨ys', he, hB', hl', hL', hb⟩
 exact ⟨he, ⟨⟨_, hL'⟩, .inr ⟨G, M, ys', rfl, hS.ne, hB', hl', hs⟩⟩, hb⟩
end Go.Proofs.YtddddfankeepkaaGreatDoor
