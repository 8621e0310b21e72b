import Derived.Test.YtldlejpacgphmabGreatG25
import Derived.Test.YtldlejpacgphmabGreatG00
import Derived.Test.YtldlejpacgphmabGreatG18
namespace Go.Proofs.YtldlejpacgphmabGreat
open Go.RowKit Go.Deep
theorem info9 : (Tryz.prog.info? 9).map (fun i => (i.zero, i.size, i.bytes)) = some (some (.string ByteArray.empty), 1, 16) := by kernel_rfl
def R5b (w : World) (rb nb fr bl : Nat) (lv : Value) : Prop := w.heap[rb]? = some (.cells #[.int .i64 (nb : Int), .int .i64 (fr : Int), .int .i64 (bl : Int), lv, .slice none 0 0, .int .i64 0, .pointer none, .bool false] 204 (0, 0))
theorem R5b.cell {w : World} {rb nb fr bl : Nat} {lv : Value} (h : R5b w rb nb fr bl lv) (i : Nat) : w.cell? ⟨rb, i, none⟩ = #[.int .i64 (nb : Int), .int .i64 (fr : Int), .int .i64 (bl : Int), lv, .slice none 0 0, .int .i64 0, .pointer none, .bool false][i]? := by
 unfold R5b at h
 simp [World.cell?, h]
theorem R5b.frozen {w : World} {rb nb fr bl : Nat} {lv : Value} (h : R5b w rb nb fr bl lv) (i : Nat) : w.frozen? ⟨rb, i, none⟩ = false := by
 unfold R5b at h
 simp [World.frozen?, h]
theorem R5b.lt {w : World} {rb nb fr bl : Nat} {lv : Value} (h : R5b w rb nb fr bl lv) : rb < w.heap.size := (Array.getElem?_eq_some_iff.1 h).1
theorem R5b.set {w : World} {rb nb fr bl : Nat} {lv : Value} (h : R5b w rb nb fr bl lv) (v : Value) : R5b (w.setCell ⟨rb, 3, none⟩ v) rb nb fr bl v := by
 unfold R5b at *
 simp only [World.setCell, Array.getElem?_modify]
 rw [h]
 simp
set_option maxRecDepth 100000 in
set_option maxHeartbeats 2000000 in
theorem rnew5_any (nb fr bl : Nat) (hnb : nb ≤ 524288) (w : World) :
  Calls Tryz.prog 81 #[.int .i64 (nb : Int), .int .i64 (fr : Int), .int .i64 (bl : Int)] w fun e w' => ∃ lv, e = .returned (.pointer (some ⟨w.heap.size, 0, none⟩)) ∧ R5b w' w.heap.size nb fr bl lv ∧ w'.ownsRow (w.heap.size + 1) 9 1 lv nb (List.replicate nb (.string (strOfNums (zeros 512)))) ∧ Below w.heap.size w w' := by
 obtain ⟨PO, hPO⟩ : ∃ PO : Ending → World → Prop, PO = fun e w' => ∃ lv, e = .returned (.pointer (some ⟨w.heap.size, 0, none⟩)) ∧ R5b w' w.heap.size nb fr bl lv ∧ w'.ownsRow (w.heap.size + 1) 9 1 lv nb (List.replicate nb (.string (strOfNums (zeros 512)))) ∧ Below w.heap.size w w' := ⟨_, rfl⟩
 rw [← hPO]
 obtain ⟨i9, hi9, hz9, hs9, hb9⟩ := info_parts info9
 have hmk' : ∀ u : World, (Instr.makeSlice 22 (.int .i64 512) (.int .i64 512)).run Tryz.prog u = .ok (.slice (some ⟨u.heap.size, 0, none⟩) 512 512) (u.alloc (.cells ((zeros 512).map (Value.int .u8)).toArray 5)) := fun u => make_u8 512 (by decide) u
 obtain ⟨w1, hw1⟩ : ∃ w1, w1 = w.alloc (.cells #[.int .i64 (nb : Int), .int .i64 (fr : Int), .int .i64 (bl : Int), .slice none 0 0, .slice none 0 0, .int .i64 0, .pointer none, .bool false] 204) := ⟨_, rfl⟩
 have z1 : w1.heap.size = w.heap.size + 1 := by rw [hw1]; simp
 have b1 : Below w.heap.size w w1 := by rw [hw1]; exact (Below.refl _ _).alloc (Nat.le_refl _) _
 have r1 : R5b w1 w.heap.size nb fr bl (.slice none 0 0) := by rw [hw1]; exact Array.getElem?_push_size
 obtain ⟨w2, hw2⟩ : ∃ w2, w2 = w1.alloc (.cells ((zeros 512).map (Value.int .u8)).toArray 5) := ⟨_, rfl⟩
 have z2 : w2.heap.size = w.heap.size + 2 := by rw [hw2]; simp [z1]
 have b2 : Below w1.heap.size w1 w2 := by rw [hw2]; exact (Below.refl _ _).alloc (Nat.le_refl _) _
 have o2 : Own w2 (w.heap.size + 1) 512 512 (zeros 512) := by
  rw [hw2, ← z1]
  exact Own.of_blk (Array.getElem?_push_size) (by simp [zeros]) (by unfold maxLen; omega)
 have hcv := conv_str (o2.rdn (X := fun _ => False) (isB_zeros' _) (fun q => q)).rd 512
 have H0 : Hid (R5b w2 w.heap.size nb fr bl (.slice none 0 0) ∧ Below w.heap.size w w2) := ⟨(b2.block _ r1.lt).trans r1, b1.trans (b2.mono b1.size)⟩
 have HW1 : Hid (w.alloc (.cells #[.int .i64 (nb : Int), .int .i64 (fr : Int), .int .i64 (bl : Int), .slice none 0 0, .slice none 0 0, .int .i64 0, .pointer none, .bool false] 204) = w1) := hw1.symm
 have HW2 : Hid (w1.alloc (.cells ((zeros 512).map (Value.int .u8)).toArray 5) = w2) := hw2.symm
 have HP : Hid (∀ w' lv, R5b w' w.heap.size nb fr bl lv → w'.ownsRow (w.heap.size + 1) 9 1 lv nb (List.replicate nb (.string (strOfNums (zeros 512)))) → Below w.heap.size w w' → PO (.returned (.pointer (some ⟨w.heap.size, 0, none⟩))) w') := fun w' lv q1 q2 q3 => by
  rw [hPO]; exact ⟨lv, rfl, q1, q2, q3⟩
 generalize strOfNums (zeros 512) = S at *
 clear hPO b1 r1 b2 o2 hw1 hw2
 go_enter Tryz.func81, Tryz.ntmps81
 go_wp2_with fail
 rw [HW1.out, HW2.out, hcv]
 clear HW1 HW2 hmk'
 go_wp2_with fail
 go_loopw [9] (fun iv wr => ∃ (q : Nat) (lv : Value), q ≤ nb ∧ iv = .int .i64 (q : Int) ∧ R5b wr w.heap.size nb fr bl lv ∧ wr.ownsRow (w.heap.size + 1) 9 1 lv q (List.replicate q (.string S)) ∧ Below w.heap.size w wr) (fun iv _ => nb - (intOf iv).toNat)
 case atStart => exact ⟨0, _, Nat.zero_le _, rfl, H0.out.1, ⟨rfl, .inl ⟨rfl, rfl⟩⟩, H0.out.2⟩
 case round =>
  clear H0 hcv
  obtain ⟨q, lv, hqN, rfl, hr, hrow, hbt⟩ := hrel
  by_cases hq : q < nb
  ·have hq' : (q : Int) < (nb : Int) := by omega
   have k3 := hr.cell 3
   have kf := hr.frozen 3
   simp at k3
   have hrl := hr.lt
   have hs := hbt.size
   have HRow2 := hid (owns_below hrow ((Below.refl wr.heap.size wr).alloc (Nat.le_refl _) (.cells #[.string S] 9)))
   have HR := hid hr
   have HBT := hid hbt
   have HO := hid hrow
   clear hr hrow hbt HP
   go_wp2_with (at_builtin; refine wpList_append_lies _ rfl _ _ _ rfl (w.heap.size + 1) 9 i9 (.string ByteArray.empty) 1 16 Tryz.underlying70 hi9 hz9 hs9 hb9 rfl (by decide) _ q _ rfl (by exact HRow2.out) ⟨wr.heap.size, 0, none⟩ 1 1 [.string S] rfl rfl (by exact newsI1 wr _ _) (by intro u hu; simp at hu; subst hu; rfl) (by decide) (by unfold maxLen; omega) (by omega) (by simp; omega) (wr.heap.size + 1) (by simp) ?_)
   intro g4 cap4 w6 ho4 hg4 hlie4 hl4
   have hrb : lv.ownBlock ≠ some w.heap.size := fun e => by
    have := (World.ownsRow.lt HO.out w.heap.size e).1
    omega
   have h6 : w6.heap[w.heap.size]? = wr.heap[w.heap.size]? := (hg4.block w.heap.size (by simp; omega) hrb.symm).trans (Below.heap_alloc _ _ _ hrl)
   have r6 : R5b w6 w.heap.size nb fr bl lv := h6.trans HR.out
   have b6 : Below w.heap.size w w6 := (((But.of_below HBT.out (X := fun k => w.heap.size + 1 ≤ k)).alloc (.cells #[.string S] 9)).of_grown hg4 (fun x e _ => (World.ownsRow.lt HO.out x e).1)).below (Nat.le_refl _) (fun k hk q => by omega)
   have k6 := r6.cell 3
   have f6 := r6.frozen 3
   simp at k6
   have hg4l := (World.ownsRow.lt ho4 g4 rfl).1
   have FIN : Hid (R5b (w6.setCell ⟨w.heap.size, 3, none⟩ (.slice (some ⟨g4, 0, none⟩) (q + 1) cap4)) w.heap.size nb fr bl (.slice (some ⟨g4, 0, none⟩) (q + 1) cap4) ∧ (w6.setCell ⟨w.heap.size, 3, none⟩ (.slice (some ⟨g4, 0, none⟩) (q + 1) cap4)).ownsRow (w.heap.size + 1) 9 1 (.slice (some ⟨g4, 0, none⟩) (q + 1) cap4) (q + 1) (List.replicate (q + 1) (.string S)) ∧ Below w.heap.size w (w6.setCell ⟨w.heap.size, 3, none⟩ (.slice (some ⟨g4, 0, none⟩) (q + 1) cap4))) := by
    refine ⟨r6.set _, ?_, ?_⟩
    ·rw [List.replicate_succ']
     exact owns_setCell ho4 (fun e => by injection e with e; simp only at e; omega) _
    ·exact (((But.of_below b6 (X := fun k => w.heap.size ≤ k))).setCell (p := ⟨w.heap.size, 3, none⟩) (Nat.le_refl _) _).below (Nat.le_refl _) (fun k hk q => by omega)
   clear ho4 hg4 hlie4 hl4 h6 r6 b6 HRow2 HR HBT HO k3 kf hrb
   go_wp2_with fail
   go_roundw
   case rel => exact ⟨q + 1, _, by omega, by go_num, FIN.out.1, FIN.out.2.1, FIN.out.2.2⟩
   case measure => simp [intOf]; omega
  ·have hqe : q = nb := by omega
   have hq' : ¬ (q : Int) < (nb : Int) := by omega
   subst hqe
   have FIN := hid (HP.out wr lv hr hrow hbt)
   clear hr hrow hbt HP
   go_wp2
   exact FIN.out
open Go.RowKit Go.Deep
def OpP (w : World) (nb fr bl : Nat) (e : Ending) (w' : World) : Prop :=
 ∃ ob p st rb j c Z d s lv, e = .returned (.tuple #[.pointer (some ⟨ob, 0, none⟩), .bool true]) ∧ (w.heap.size ≤ ob ∧ w.heap.size ≤ st ∧ w.heap.size ≤ rb ∧ ob < w'.heap.size ∧ rb < ob ∧ st < rb) ∧ w'.heap[ob]? = some (.cells #[.pointer (some ⟨p, 0, none⟩), .pointer (some ⟨st, 0, none⟩), .pointer (some ⟨rb, 0, none⟩), .slice none 0 0, .slice none 0 0, .slice none 0 0, .int .i64 0] 80 (0, 0)) ∧ Jq Z w' j c p 4 nb 0 fr bl d s ∧ d.fu = -1 ∧ On d s nb fr bl 0 (⟨zeros (512 * nb), [], -1, false⟩ : Pd).read [] ∧ Stb w' st j (.pointer none) ∧ (¬ Z st ∧ ¬ Z ob ∧ ¬ Z rb) ∧ (∀ k, Z k → w.heap.size ≤ k ∧ k < w'.heap.size) ∧ (R5b w' rb nb fr bl lv ∧ w'.ownsRow (rb + 1) 9 1 lv nb (List.replicate nb (.string (strOfNums (zeros 512))))) ∧ Below w.heap.size w w'
set_option maxRecDepth 100000 in
set_option maxHeartbeats 2000000 in
theorem open5_any (a b c : Int) (fr bl re nb : Nat) (hfr : fr = into 10 a) (hbl : bl = 16 + into 16 b) (hre : re = 1 + into 9 c) (hnbe : nb = fr + bl + re) (w : World) :
  Calls Tryz.prog 25 #[.agg #[.int .i64 a, .int .i64 b, .int .i64 c]] w (OpP w nb fr bl) := by
 obtain ⟨PO, hPO⟩ : ∃ PO : Ending → World → Prop, PO = OpP w nb fr bl := ⟨_, rfl⟩
 rw [← hPO]
 have l1 := into_lt a (show 0 < 10 by decide)
 have l2 := into_lt b (show 0 < 16 by decide)
 have l3 := into_lt c (show 0 < 9 by decide)
 obtain ⟨w0, hw0⟩ : ∃ w0, w0 = w.alloc (.cells #[.int .i64 a, .int .i64 b, .int .i64 c] 65) := ⟨_, rfl⟩
 have b0 : Below w.heap.size w w0 := by rw [hw0]; exact (Below.refl _ _).alloc (Nat.le_refl _) _
 have z0 : w0.heap.size = w.heap.size + 1 := by rw [hw0]; simp
 have hblk : w0.heap[w.heap.size]? = some (.cells #[.int .i64 a, .int .i64 b, .int .i64 c] 65 (0, 0)) := by rw [hw0]; exact Array.getElem?_push_size
 have HC : Hid (∀ w', Below w0.heap.size w0 w' → (w'.cell? ⟨w.heap.size, 0, none⟩ = some (.int .i64 a) ∧ w'.cell? ⟨w.heap.size, 1, none⟩ = some (.int .i64 b) ∧ w'.cell? ⟨w.heap.size, 2, none⟩ = some (.int .i64 c)) ∧ (∀ i, w'.frozen? ⟨w.heap.size, i, none⟩ = false)) := fun w' b => by
  have hb := (b.block w.heap.size (by omega)).trans hblk
  exact ⟨⟨by simp [World.cell?, hb], by simp [World.cell?, hb], by simp [World.cell?, hb]⟩, fun i => by simp [World.frozen?, hb]⟩
 have HW : Hid (w.alloc (.cells #[.int .i64 a, .int .i64 b, .int .i64 c] 65) = w0) := hw0.symm
 have HR := hid (right_any a b c w0)
 rw [show (16 + (into 16 b : Int)) = (bl : Int) by omega, show (1 + (into 9 c : Int)) = (re : Int) by omega, show ((into 10 a : Nat) : Int) = (fr : Int) by omega] at HR
 have HST : Hid (∀ w1, Below w0.heap.size w0 w1 → ∃ w2, ((w1.setCell ⟨w.heap.size, 0, none⟩ (.int .i64 (fr : Int))).setCell ⟨w.heap.size, 1, none⟩ (.int .i64 (bl : Int))).setCell ⟨w.heap.size, 2, none⟩ (.int .i64 (re : Int)) = w2 ∧ Below w.heap.size w w2 ∧ w.heap.size < w2.heap.size ∧ ∀ w', Below w2.heap.size w2 w' → (w'.cell? ⟨w.heap.size, 0, none⟩ = some (.int .i64 (fr : Int)) ∧ w'.cell? ⟨w.heap.size, 1, none⟩ = some (.int .i64 (bl : Int)) ∧ w'.cell? ⟨w.heap.size, 2, none⟩ = some (.int .i64 (re : Int)))) := fun w1 b1 => by
  have h1 := (b1.block w.heap.size (by omega)).trans hblk
  have s1 := b1.size
  have B1 : Below w.heap.size w w1 := b0.trans (b1.mono (by omega))
  refine ⟨_, rfl, ((((But.of_below B1 (X := fun k => w.heap.size ≤ k)).setCell (p := ⟨w.heap.size, 0, none⟩) (Nat.le_refl _) _).setCell (p := ⟨w.heap.size, 1, none⟩) (Nat.le_refl _) _).setCell (p := ⟨w.heap.size, 2, none⟩) (Nat.le_refl _) _).below (Nat.le_refl _) (fun k hk q => by omega), by simp; omega, fun w' b' => ?_⟩
  have h2 : (((w1.setCell ⟨w.heap.size, 0, none⟩ (.int .i64 (fr : Int))).setCell ⟨w.heap.size, 1, none⟩ (.int .i64 (bl : Int))).setCell ⟨w.heap.size, 2, none⟩ (.int .i64 (re : Int))).heap[w.heap.size]? = some (.cells #[.int .i64 (fr : Int), .int .i64 (bl : Int), .int .i64 (re : Int)] 65 (0, 0)) := by
   simp only [World.setCell, Array.getElem?_modify]
   rw [h1]
   simp
  have hb := (b'.block w.heap.size (by simp; omega)).trans h2
  exact ⟨by simp [World.cell?, hb], by simp [World.cell?, hb], by simp [World.cell?, hb]⟩
 have HFin : Hid (∀ w2 w3 w4 w5 p st rb lv Z, Below w.heap.size w w2 → Below w2.heap.size w2 w3 → (∀ k, Z k → w2.heap.size ≤ k ∧ k < w3.heap.size) → StP Z w3 p nb fr bl (⟨zeros (512 * nb), [], -1, false⟩ : Pd).read [] (.returned (.tuple #[.pointer (some ⟨st, 0, none⟩), .int .i64 0])) w4 → rb = w4.heap.size → R5b w5 rb nb fr bl lv → w5.ownsRow (rb + 1) 9 1 lv nb (List.replicate nb (.string (strOfNums (zeros 512)))) → Below w4.heap.size w4 w5 → PO (.returned (.tuple #[.pointer (some ⟨w5.heap.size, 0, none⟩), .bool true])) (w5.alloc (.cells #[.pointer (some ⟨p, 0, none⟩), .pointer (some ⟨st, 0, none⟩), .pointer (some ⟨rb, 0, none⟩), .slice none 0 0, .slice none 0 0, .slice none 0 0, .int .i64 0] 80))) := fun w2 w3 w4 w5 p st rb lv Z q1 q2 q3 q4 q5 q6 q7 q8 => by
  obtain ⟨st', j, cc, Z', d', s', e1, e2, e3, e4, e5, e6, e7, e8, e9⟩ := q4
  have est : st' = st := by injection e1 with e1; injection e1 with e1; simp at e1; exact e1.symm
  subst est
  rw [hPO]
  have s1 := q1.size
  have s2 := q2.size
  have s9 := e9.size
  have s8 := q8.size
  have hstl := e6.lt
  have hrl := q6.lt
  have B4 : Below w.heap.size w w4 := ((But.of_below (q1.trans (q2.mono s1)) (X := fun k => w.heap.size ≤ k)).comp e9 (fun k hk q => by have := q3 k q; omega)).below (Nat.le_refl _) (fun k hk q => by omega)
  have b6 : Below w5.heap.size w5 (w5.alloc (.cells #[.pointer (some ⟨p, 0, none⟩), .pointer (some ⟨st', 0, none⟩), .pointer (some ⟨rb, 0, none⟩), .slice none 0 0, .slice none 0 0, .slice none 0 0, .int .i64 0] 80)) := (Below.refl _ _).alloc (Nat.le_refl _) _
  have b46 := q8.trans (b6.mono s8)
  have z6 : (w5.alloc (.cells #[.pointer (some ⟨p, 0, none⟩), .pointer (some ⟨st', 0, none⟩), .pointer (some ⟨rb, 0, none⟩), .slice none 0 0, .slice none 0 0, .slice none 0 0, .int .i64 0] 80)).heap.size = w5.heap.size + 1 := by simp
  refine ⟨w5.heap.size, p, st', rb, j, cc, Z', d', s', lv, rfl, ⟨by omega, by omega, by omega, by omega, by omega, by omega⟩, Array.getElem?_push_size, e3.below b46, e4, e5, e6.keep (b46.block _ hstl), ⟨e7, fun q => by have := (e8 _ q).2; omega, fun q => by have := (e8 _ q).2; omega⟩, fun k q => ?_, ⟨(b6.block _ hrl).trans q6, owns_below q7 b6⟩, B4.trans (b46.mono (by omega))⟩
  obtain ⟨r1, r2⟩ := e8 k q
  refine ⟨?_, by omega⟩
  rcases r1 with r1 | r1
  ·have := q3 k r1; omega
  ·omega
 have hnb : nb ≤ 524288 := by omega
 have hlo : 16 ≤ bl := by omega
 have hfit : fr + bl ≤ nb := by omega
 have hsum : fr + bl + re ≤ 524288 := by omega
 obtain ⟨⟨c0, c1, c2⟩, hf0⟩ := HC.out w0 (Below.refl _ _)
 have HNB := hid hnbe
 clear hw0 b0 hblk hPO hfr hbl hre hnbe l1 l2 l3
 go_enter Tryz.func25, Tryz.ntmps25
 go_wp2_with fail
 rw [HW.out]
 go_wp2_with fail
 refine Calls.mono HR.out ?_
 rintro e w1 ⟨rfl, b1⟩
 obtain ⟨⟨d0, d1, d2⟩, hf1⟩ := HC.out w1 b1
 have g0 := hf1 0
 have g1 := hf1 1
 have g2 := hf1 2
 obtain ⟨w2, hw2, B2, z2, HC2⟩ := HST.out w1 b1
 have HB2 := hid B2
 replace HC2 := hid HC2
 obtain ⟨t0, t1, t2⟩ := HC2.out w2 (Below.refl _ _)
 clear HC HST HR HW b1 hf1 hf0 c0 c1 c2 B2
 go_wp2_with fail
 refine Calls.mono (laid_any fr bl re nb HNB.out hlo hnb w2) ?_
 rintro e w3 ⟨p, d, rfl, ⟨Z, hD, hZ⟩, hft, hfu, hon, b3⟩
 obtain ⟨k0, k1, k2⟩ := HC2.out w3 b3
 have HSt := hid (stands_any hD hon hfu hft hlo hfit hnb (re : Int))
 have HX := hid (And.intro b3 hZ)
 clear hD hft hfu hon b3 hZ d0 d1 d2 g0 g1 g2 hw2 t0 t1 t2
 go_wp2_with fail
 refine Calls.mono HSt.out ?_
 intro e w4 hS
 obtain ⟨st, _, _, _, _, _, rfl, _⟩ := id hS
 have B24 : Below w2.heap.size w2 w4 := by
  obtain ⟨_, _, _, _, _, _, _, _, _, _, _, _, _, _, e9⟩ := id hS
  exact ((But.of_below HX.out.1 (X := fun k => w2.heap.size ≤ k)).comp e9 (fun k hk q => (HX.out.2 k q).1)).below (Nat.le_refl _) (fun k hk q => by omega)
 obtain ⟨m0, m1, m2⟩ := HC2.out w4 B24
 have HS4 := hid hS
 have HB24 := hid B24
 clear hS HSt k0 k1 k2 B24
 go_wp2_with fail
 have HN := hid (rnew5_any nb fr bl hnb w4)
 rw [show ((nb : Nat) : Int) = (fr : Int) + (bl : Int) + (re : Int) by have := HNB.out; omega] at HN
 refine Calls.mono HN.out ?_
 rintro e w5 ⟨lv, rfl, hr5, ho5, b5⟩
 have FIN := hid (HFin.out w2 w3 w4 w5 p st w4.heap.size lv Z HB2.out HX.out.1 HX.out.2 HS4.out rfl hr5 ho5 b5)
 clear HN HFin HB2 HX HS4 hr5 ho5 b5 HB24 HC2 m0 m1 m2 HNB
 go_wp2
 exact FIN.out
open Go.RowKit Go.Deep
def RdsP (Z : Nat → Prop) (w : World) (j c p room nb K fr bl : Nat) (d : Pd) (s : Js) (n : Nat) (f : Nat → List Int) (e : Ending) (w' : World) : Prop :=
 ∃ lv Z', e = .returned (.tuple #[lv, .bool true]) ∧ w'.ownsRow w.heap.size 9 1 lv n ((List.range n).map (fun q => .string (strOfNums (f q)))) ∧ (∀ g, lv.ownBlock = some g → ¬ Z' g) ∧ Jq Z' w' j c p room nb (K + n) fr bl d s ∧ Gr Z Z' w ∧ But Z w w'
set_option maxRecDepth 100000 in
set_option maxHeartbeats 2000000 in
theorem reads_around {Z : Nat → Prop} {w : World} {j c p room nb K fr bl : Nat} {d : Pd} {s : Js} (h : Jq Z w j c p room nb K fr bl d s) (st base n : Nat) (f : Nat → List Int) (hbase : base + n ≤ 524288)
  (hrd : ∀ q Z' wr, q < n → Jq Z' wr j c p room nb (K + q) fr bl d s → Gr Z Z' w → But Z w wr → Calls Tryz.prog 83 #[.pointer (some ⟨st, 0, none⟩), .int .i64 ((base + q : Nat) : Int)] wr (RdH Z' wr j c p room nb (K + q) fr bl d s (f q))) :
  Calls Tryz.prog 26 #[.pointer (some ⟨st, 0, none⟩), .pointer none, .int .i64 (base : Int), .int .i64 (n : Int)] w (RdsP Z w j c p room nb K fr bl d s n f) := by
 obtain ⟨PO, hPO⟩ : ∃ PO : Ending → World → Prop, PO = RdsP Z w j c p room nb K fr bl d s n f := ⟨_, rfl⟩
 rw [← hPO]
 obtain ⟨i9, hi9, hz9, hs9, hb9⟩ := info_parts info9
 have HP : Hid (∀ w' lv Z', w'.ownsRow w.heap.size 9 1 lv n ((List.range n).map (fun q => .string (strOfNums (f q)))) → (∀ g, lv.ownBlock = some g → ¬ Z' g) → Jq Z' w' j c p room nb (K + n) fr bl d s → Gr Z Z' w → But Z w w' → PO (.returned (.tuple #[lv, .bool true])) w') := fun w' lv Z' q1 q2 q3 q4 q5 => by
  rw [hPO]; exact ⟨lv, Z', rfl, q1, q2, q3, q4, q5⟩
 have H0 := hid h
 have HRd := hid hrd
 clear h hrd hPO
 go_enter Tryz.func26, Tryz.ntmps26
 go_wp2_with fail
 go_loopw [10, 11] (fun ov iv wr => ∃ (q : Nat) (Z' : Nat → Prop) (lv : Value), q ≤ n ∧ iv = .int .i64 (q : Int) ∧ lv = ov ∧ wr.ownsRow w.heap.size 9 1 lv q ((List.range q).map (fun q => .string (strOfNums (f q)))) ∧ (∀ g, lv.ownBlock = some g → ¬ Z' g) ∧ Jq Z' wr j c p room nb (K + q) fr bl d s ∧ Gr Z Z' w ∧ But Z w wr) (fun _ iv _ => n - (intOf iv).toNat)
 case atStart => exact ⟨0, Z, _, Nat.zero_le _, rfl, rfl, ⟨rfl, .inl ⟨rfl, rfl⟩⟩, (fun g e => by cases e), H0.out, (fun k _ q => q), But.refl _ _⟩
 case round =>
  clear H0
  obtain ⟨q, Z', lv, hqN, rfl, rfl, hrow, hnz, hJ, hG, hB⟩ := hrel
  by_cases hq : q < n
  ·have hq' : (q : Int) < (n : Int) := by omega
   have HC := hid (HRd.out q Z' wr hq hJ hG hB)
   rw [show ((base + q : Nat) : Int) = (base : Int) + (q : Int) by omega] at HC
   have HO := hid hrow
   have HK := hid (And.intro hnz (And.intro hG hB))
   have hs := hB.size
   clear hrow hnz hJ hG hB HP HRd
   go_wp2_with fail
   refine Calls.mono HC.out ?_
   rintro e w1 ⟨g, cp, rfl, hg, ho, hz, ⟨Z2, hJ2, hG2, hZg⟩, b1⟩
   have s1 := b1.size
   have hcv := conv_str (ho.rdn (X := fun _ => False) hz (fun q => q)).rd cp
   have ho1 : w1.ownsRow w.heap.size 9 1 lv q ((List.range q).map (fun q => .string (strOfNums (f q)))) := owns_keep HO.out (fun k e => b1.block k (World.ownsRow.lt HO.out k e).2 (HK.out.1 k e))
   have HRow2 := hid (owns_below ho1 ((Below.refl w1.heap.size w1).alloc (Nat.le_refl _) (.cells #[.string (strOfNums (f q))] 9)))
   have HX := hid (And.intro hJ2 (And.intro hG2 b1))
   obtain ⟨S, hS⟩ : ∃ S, S = strOfNums (f q) := ⟨_, rfl⟩
   rw [← hS] at hcv HRow2
   have HS := hid hS
   have HO1 := hid ho1
   clear hJ2 hG2 b1 ho1 hS HC hz ho
   go_wp2_with (at_builtin; refine wpList_append_lies _ rfl _ _ _ rfl w.heap.size 9 i9 (.string ByteArray.empty) 1 16 Tryz.underlying70 hi9 hz9 hs9 hb9 rfl (by decide) _ q _ rfl (by exact HRow2.out) ⟨w1.heap.size, 0, none⟩ 1 1 [.string S] rfl rfl (by exact newsI1 w1 _ _) (by intro u hu; simp at hu; subst hu; rfl) (by decide) (by unfold maxLen; omega) (by omega) (by simp; omega) (w1.heap.size + 1) (by simp) ?_)
   intro g4 cap4 w6 ho4 hg4 hlie4 hl4
   have FIN : Hid (∃ Z3 : Nat → Prop, w6.ownsRow w.heap.size 9 1 (.slice (some ⟨g4, 0, none⟩) (q + 1) cap4) (q + 1) ((List.range (q + 1)).map (fun q => .string (strOfNums (f q)))) ∧ (∀ g, (Value.slice (some ⟨g4, 0, none⟩) (q + 1) cap4).ownBlock = some g → ¬ Z3 g) ∧ Jq Z3 w6 j c p room nb (K + (q + 1)) fr bl d s ∧ Gr Z Z3 w ∧ But Z w w6) := by
    obtain ⟨hJ2, hG2, b1⟩ := HX.out
    obtain ⟨hnz, hG, hB⟩ := HK.out
    have bX : But (fun k => lv.ownBlock = some k) w1 w6 := ((But.refl (fun k => lv.ownBlock = some k) w1).alloc (.cells #[.string S] 9)).of_grown hg4 (fun x e _ => e)
    refine ⟨fun k => Z2 k ∧ k < w1.heap.size, ?_, ?_, ?_, ?_, ?_⟩
    ·rw [List.range_succ, List.map_append, List.map_singleton, ← HS.out]
     exact ho4
    ·intro k e
     have ek : k = g4 := by injection e with e; exact e.symm
     subst ek
     rintro ⟨e1, e2⟩
     rcases hlie4 with r | r
     ·have hlt := (World.ownsRow.lt HO.out k r).2
      exact hnz k r (hG2 k hlt e1)
     ·omega
    ·rw [show K + (q + 1) = K + q + 1 by omega]
     exact hJ2.cut.but bX (fun k hk e1 e2 => by
      have hlt := (World.ownsRow.lt HO.out k e2).2
      exact hnz k e2 (hG2 k hlt e1.1))
    ·exact fun k hk e => hG k hk (hG2 k (by omega) e.1)
    ·exact (hB.comp b1 (fun k hk e => hG k hk e)).comp bX (fun k hk e => absurd (World.ownsRow.lt HO.out k e).1 (by omega))
   clear ho4 hg4 hlie4 hl4 HRow2 HX HO HO1 HK HS hcv
   go_wp2_with fail
   go_roundw
   case rel =>
    obtain ⟨Z3, q1, q2, q3, q4, q5⟩ := FIN.out
    exact ⟨q + 1, Z3, _, by omega, by go_num, rfl, q1, q2, q3, q4, q5⟩
   case measure => simp [intOf]; omega
  ·have hqe : q = n := by omega
   have hq' : ¬ (q : Int) < (n : Int) := by omega
   subst hqe
   have FIN := hid (HP.out wr lv Z' hrow hnz hJ hG hB)
   clear hrow hnz hJ hG hB HP HRd
   go_wp2
   exact FIN.out
set_option maxRecDepth 100000 in
set_option maxHeartbeats 2000000 in
theorem reads_through {Z : Nat → Prop} {w : World} {j c p room nb K fr bl : Nat} {d : Pd} {s : Js} (h : Jq Z w j c p room nb K fr bl d s) (st t base n : Nat) (f : Nat → List Int) (hbase : base + n ≤ 524288)
  (hrd : ∀ q Z' wr, q < n → Jq Z' wr j c p room nb (K + q) fr bl d s → Gr Z Z' w → But Z w wr → Calls Tryz.prog 82 #[.pointer (some ⟨t, 0, none⟩), .int .i64 ((base + q : Nat) : Int)] wr (RdH Z' wr j c p room nb (K + q) fr bl d s (f q))) :
  Calls Tryz.prog 26 #[.pointer (some ⟨st, 0, none⟩), .pointer (some ⟨t, 0, none⟩), .int .i64 (base : Int), .int .i64 (n : Int)] w (RdsP Z w j c p room nb K fr bl d s n f) := by
 obtain ⟨PO, hPO⟩ : ∃ PO : Ending → World → Prop, PO = RdsP Z w j c p room nb K fr bl d s n f := ⟨_, rfl⟩
 rw [← hPO]
 obtain ⟨i9, hi9, hz9, hs9, hb9⟩ := info_parts info9
 have HP : Hid (∀ w' lv Z', w'.ownsRow w.heap.size 9 1 lv n ((List.range n).map (fun q => .string (strOfNums (f q)))) → (∀ g, lv.ownBlock = some g → ¬ Z' g) → Jq Z' w' j c p room nb (K + n) fr bl d s → Gr Z Z' w → But Z w w' → PO (.returned (.tuple #[lv, .bool true])) w') := fun w' lv Z' q1 q2 q3 q4 q5 => by
  rw [hPO]; exact ⟨lv, Z', rfl, q1, q2, q3, q4, q5⟩
 have H0 := hid h
 have HRd := hid hrd
 clear h hrd hPO
 go_enter Tryz.func26, Tryz.ntmps26
 go_wp2_with fail
 go_loopw [10, 11] (fun ov iv wr => ∃ (q : Nat) (Z' : Nat → Prop) (lv : Value), q ≤ n ∧ iv = .int .i64 (q : Int) ∧ lv = ov ∧ wr.ownsRow w.heap.size 9 1 lv q ((List.range q).map (fun q => .string (strOfNums (f q)))) ∧ (∀ g, lv.ownBlock = some g → ¬ Z' g) ∧ Jq Z' wr j c p room nb (K + q) fr bl d s ∧ Gr Z Z' w ∧ But Z w wr) (fun _ iv _ => n - (intOf iv).toNat)
 case atStart => exact ⟨0, Z, _, Nat.zero_le _, rfl, rfl, ⟨rfl, .inl ⟨rfl, rfl⟩⟩, (fun g e => by cases e), H0.out, (fun k _ q => q), But.refl _ _⟩
 case round =>
  clear H0
  obtain ⟨q, Z', lv, hqN, rfl, rfl, hrow, hnz, hJ, hG, hB⟩ := hrel
  by_cases hq : q < n
  ·have hq' : (q : Int) < (n : Int) := by omega
   have HC := hid (HRd.out q Z' wr hq hJ hG hB)
   rw [show ((base + q : Nat) : Int) = (base : Int) + (q : Int) by omega] at HC
   have HO := hid hrow
   have HK := hid (And.intro hnz (And.intro hG hB))
   have hs := hB.size
   clear hrow hnz hJ hG hB HP HRd
   go_wp2_with fail
   refine Calls.mono HC.out ?_
   rintro e w1 ⟨g, cp, rfl, hg, ho, hz, ⟨Z2, hJ2, hG2, hZg⟩, b1⟩
   have s1 := b1.size
   have hcv := conv_str (ho.rdn (X := fun _ => False) hz (fun q => q)).rd cp
   have ho1 : w1.ownsRow w.heap.size 9 1 lv q ((List.range q).map (fun q => .string (strOfNums (f q)))) := owns_keep HO.out (fun k e => b1.block k (World.ownsRow.lt HO.out k e).2 (HK.out.1 k e))
   have HRow2 := hid (owns_below ho1 ((Below.refl w1.heap.size w1).alloc (Nat.le_refl _) (.cells #[.string (strOfNums (f q))] 9)))
   have HX := hid (And.intro hJ2 (And.intro hG2 b1))
   obtain ⟨S, hS⟩ : ∃ S, S = strOfNums (f q) := ⟨_, rfl⟩
   rw [← hS] at hcv HRow2
   have HS := hid hS
   have HO1 := hid ho1
   clear hJ2 hG2 b1 ho1 hS HC hz ho
   go_wp2_with (at_builtin; refine wpList_append_lies _ rfl _ _ _ rfl w.heap.size 9 i9 (.string ByteArray.empty) 1 16 Tryz.underlying70 hi9 hz9 hs9 hb9 rfl (by decide) _ q _ rfl (by exact HRow2.out) ⟨w1.heap.size, 0, none⟩ 1 1 [.string S] rfl rfl (by exact newsI1 w1 _ _) (by intro u hu; simp at hu; subst hu; rfl) (by decide) (by unfold maxLen; omega) (by omega) (by simp; omega) (w1.heap.size + 1) (by simp) ?_)
   intro g4 cap4 w6 ho4 hg4 hlie4 hl4
   have FIN : Hid (∃ Z3 : Nat → Prop, w6.ownsRow w.heap.size 9 1 (.slice (some ⟨g4, 0, none⟩) (q + 1) cap4) (q + 1) ((List.range (q + 1)).map (fun q => .string (strOfNums (f q)))) ∧ (∀ g, (Value.slice (some ⟨g4, 0, none⟩) (q + 1) cap4).ownBlock = some g → ¬ Z3 g) ∧ Jq Z3 w6 j c p room nb (K + (q + 1)) fr bl d s ∧ Gr Z Z3 w ∧ But Z w w6) := by
    obtain ⟨hJ2, hG2, b1⟩ := HX.out
    obtain ⟨hnz, hG, hB⟩ := HK.out
    have bX : But (fun k => lv.ownBlock = some k) w1 w6 := ((But.refl (fun k => lv.ownBlock = some k) w1).alloc (.cells #[.string S] 9)).of_grown hg4 (fun x e _ => e)
    refine ⟨fun k => Z2 k ∧ k < w1.heap.size, ?_, ?_, ?_, ?_, ?_⟩
    ·rw [List.range_succ, List.map_append, List.map_singleton, ← HS.out]
     exact ho4
    ·intro k e
     have ek : k = g4 := by injection e with e; exact e.symm
     subst ek
     rintro ⟨e1, e2⟩
     rcases hlie4 with r | r
     ·have hlt := (World.ownsRow.lt HO.out k r).2
      exact hnz k r (hG2 k hlt e1)
     ·omega
    ·rw [show K + (q + 1) = K + q + 1 by omega]
     exact hJ2.cut.but bX (fun k hk e1 e2 => by
      have hlt := (World.ownsRow.lt HO.out k e2).2
      exact hnz k e2 (hG2 k hlt e1.1))
    ·exact fun k hk e => hG k hk (hG2 k (by omega) e.1)
    ·exact (hB.comp b1 (fun k hk e => hG k hk e)).comp bX (fun k hk e => absurd (World.ownsRow.lt HO.out k e).1 (by omega))
   clear ho4 hg4 hlie4 hl4 HRow2 HX HO HO1 HK HS hcv
   go_wp2_with fail
   go_roundw
   case rel =>
    obtain ⟨Z3, q1, q2, q3, q4, q5⟩ := FIN.out
    exact ⟨q + 1, Z3, _, by omega, by go_num, rfl, q1, q2, q3, q4, q5⟩
   case measure => simp [intOf]; omega
  ·have hqe : q = n := by omega
   have hq' : ¬ (q : Int) < (n : Int) := by omega
   subst hqe
   have FIN := hid (HP.out wr lv Z' hrow hnz hJ hG hB)
   clear hrow hnz hJ hG hB HP HRd
   go_wp2
   exact FIN.out
open Go.RowKit Go.Deep
def StrL (w : World) (v : Value) (xs : List ByteArray) : Prop := ∃ a c, v = .slice a xs.length c ∧ ∀ i S, xs[i]? = some S → ∃ g, a = some ⟨g, 0, none⟩ ∧ g < w.heap.size ∧ w.cell? ⟨g, i, none⟩ = some (.string S)
theorem StrL.of_row {w : World} {base : Nat} {v : Value} {n : Nat} {xs : List ByteArray} (hn : xs.length = n) (h : w.ownsRow base 9 1 v n (xs.map Value.string)) : StrL w v xs := by
 subst hn
 obtain ⟨a, c, rfl, _⟩ := owns_slice h
 refine ⟨a, c, rfl, fun i S hi => ?_⟩
 have hil : i < xs.length := (List.getElem?_eq_some_iff.1 hi).1
 rcases h.2 with ⟨_, q⟩ | ⟨g, cap, cur, q1, q2, _⟩
 ·omega
 ·simp at q1
  have hlt := (World.ownsRow.lt h g (by rw [q1.1]; rfl)).2
  refine ⟨g, q1.1, hlt, ?_⟩
  have hcell := World.ownsRow.cellAt (by rw [q1.1] at h; exact h) i (by simp; omega)
  rw [hcell]
  simp [hi]
set_option maxRecDepth 100000 in
set_option maxHeartbeats 2000000 in
theorem same_eq {w : World} {v1 v2 : Value} {xs : List ByteArray} (hn : xs.length ≤ 524288) (h1 : StrL w v1 xs) (h2 : StrL w v2 xs) :
  Calls Tryz.prog 29 #[v1, v2] w fun e w' => e = .returned (.bool true) ∧ Below w.heap.size w w' := by
 obtain ⟨a1, c1, rfl, k1⟩ := h1
 obtain ⟨a2, c2, rfl, k2⟩ := h2
 have K1 := hid k1
 have K2 := hid k2
 obtain ⟨N, hN⟩ : ∃ N, N = xs.length := ⟨_, rfl⟩
 rw [← hN] at hn ⊢
 have HN := hid hN
 clear k1 k2 hN
 go_enter Tryz.func29, Tryz.ntmps29
 go_wp2_with fail
 go_loopw [5] (fun iv wr => ∃ q : Nat, q ≤ N ∧ iv = .int .i64 (q : Int) ∧ Below w.heap.size w wr) (fun iv _ => N - (intOf iv).toNat)
 case atStart => exact ⟨0, Nat.zero_le _, rfl, Below.refl _ _⟩
 case round =>
  obtain ⟨q, hqN, rfl, hb⟩ := hrel
  by_cases hq : q < N
  ·have hq' : (q : Int) < (N : Int) := by omega
   obtain ⟨S, hS⟩ : ∃ S, xs[q]? = some S := ⟨_, List.getElem?_eq_getElem (by have := HN.out; omega)⟩
   obtain ⟨g1, e1, l1, m1⟩ := K1.out q S hS
   obtain ⟨g2, e2, l2, m2⟩ := K2.out q S hS
   have n1 := (hb.cell (p := ⟨g1, q, none⟩) l1).trans m1
   have n2 := (hb.cell (p := ⟨g2, q, none⟩) l2).trans m2
   subst e1
   subst e2
   have HB := hid hb
   clear hb m1 m2 hS l1 l2 K1 K2
   go_wp2_with fail
   refine wp_region_noPanic ?_
   refine wp_region_held_drew (S := fun w' => w'.cell? ⟨g1, q, none⟩ = some (.string S) ∧ w'.cell? ⟨g2, q, none⟩ = some (.string S)) (by kernel_rfl) ⟨n1, n2⟩ (fun hSS => ?_)
   refine tk 0 (some 17) (.move (.tmp 0)) 70 none hSS ?_
   refine tk 1 (some 18) (.move (.tmp 5)) 3 none hSS ?_
   refine tk 2 (some 19) (.indexAddr 70 (.tmp 17) (.tmp 18)) 0 none hSS ?_
   refine tk 3 (some 20) (.load 9 (.tmp 19)) 9 none hSS ?_
   try simp only [Act.put, zA, zB, zC]
   refine tk 4 (some 21) (.move (.tmp 1)) 70 none hSS ?_
   refine tk 5 (some 22) (.move (.tmp 5)) 3 none hSS ?_
   refine tk 6 (some 23) (.indexAddr 70 (.tmp 21) (.tmp 22)) 0 none hSS ?_
   refine tk 7 (some 24) (.load 9 (.tmp 23)) 9 none hSS ?_
   try simp only [Act.put, zA, zB, zC]
   refine tk 8 (some 25) (.binOp .neq 9 (.tmp 20) (.tmp 24) 9) 4 none hSS ?_
   try simp only [Act.put, zA, zB, zC]
   refine wpAnyH_done (by kernel_rfl) (NoPanic.normal ?_) _
   clear hSS n1 n2
   go_wp2_with fail
   go_roundw
   case rel => exact ⟨q + 1, by omega, by go_num, HB.out.drew⟩
   case measure => simp [intOf]; omega
  ·have hqe : q = N := by omega
   have hq' : ¬ (q : Int) < (N : Int) := by omega
   subst hqe
   have HB := hid hb
   clear hb K1 K2
   go_wp2
   go_ret
   exact ⟨rfl, HB.out⟩
open Go.RowKit Go.Deep
def IntL (X : Nat → Prop) (w : World) (a : Option Addr) (ps : List Int) : Prop := ∀ i v, ps[i]? = some v → ∃ b off, a = some ⟨b, off, none⟩ ∧ b < w.heap.size ∧ ¬ X b ∧ w.cell? ⟨b, off + i, none⟩ = some (.int .i64 v)
def laidP (base cnt : Nat) (L : Nat → Option (List Int)) (ps : List Int) : Nat → Option (List Int) := ps.foldl (fun L v => putL L (base + into cnt v) (blkZ v)) L
theorem laidP_snoc (base cnt : Nat) (L : Nat → Option (List Int)) (ps : List Int) (v : Int) : laidP base cnt L (ps ++ [v]) = putL (laidP base cnt L ps) (base + into cnt v) (blkZ v) := by simp [laidP]
def strsP (base cnt : Nat) (f : Nat → List Int) (L : Nat → Option (List Int)) : List ByteArray := (List.range cnt).map (fun i => strOfNums ((L (base + i)).getD (f i)))
theorem strsP_len (base cnt : Nat) (f : Nat → List Int) (L : Nat → Option (List Int)) : (strsP base cnt f L).length = cnt := by simp [strsP]
theorem strsP_put (base cnt : Nat) (f : Nat → List Int) (L : Nat → Option (List Int)) (i : Nat) (zs : List Int) : strsP base cnt f (putL L (base + i) zs) = (strsP base cnt f L).set i (strOfNums zs) := by
 apply List.ext_getElem?
 intro k
 rw [List.getElem?_set]
 simp only [strsP, List.getElem?_map, List.length_map, List.length_range]
 by_cases hk : k < cnt
 ·rw [List.getElem?_range hk]
  by_cases e : i = k
  ·subst e
   simp [putL, hk]
  ·rw [if_neg e]
   simp [putL, show ¬ k = i from fun q => e q.symm]
 ·rw [List.getElem?_eq_none (by simpa using hk)]
  split
  ·split
   ·omega
   ·rfl
  ·rfl
def WroP (Z Zw : Nat → Prop) (w : World) (x j c p room nb K fr bl m n : Nat) (sv : Value) (L : Nat → Option (List Int)) (d : Pd) (s : Js) (base cnt : Nat) (f : Nat → List Int) (ps : List Int) (g cp : Nat) (w' : World) : Prop :=
 ∃ Z' Zw' D a, w'.ownsRow w.heap.size 9 1 (.slice (some ⟨g, 0, none⟩) cnt cp) cnt ((strsP base cnt f (laidP base cnt L ps)).map Value.string) ∧ Wq Zw' w' x j m (n + ps.length) nb fr bl D a sv (.slice none 0 0) (laidP base cnt L ps) ∧ (∀ z g cp k, a z = some (g, cp, k) → g ≠ m) ∧ Jq Z' w' j c p room nb (K + ps.length) fr bl d s ∧ Gr Z Z' w ∧ Gr Zw Zw' w ∧ (∀ k, Zw' k → k < w'.heap.size ∧ ¬ Z' k) ∧ ¬ Z' g ∧ ¬ Zw' g ∧ But (fun k => Z k ∨ k = m) w w'
theorem Wq.cut {Z : Nat → Prop} {w : World} {x j m n nb fr bl : Nat} {D : DataW (Nat × Nat × Int)} {a : Nat → Option (Nat × Nat × Int)} {sv mv : Value} {L : Nat → Option (List Int)} (h : Wq Z w x j m n nb fr bl D a sv mv L) : Wq (fun k => Z k ∧ k < w.heap.size) w x j m n nb fr bl D a sv mv L :=
 ⟨h.blk, h.mp, h.am, fun y g cp k e => by
  obtain ⟨zs, q1, q2, q3, q4, q5⟩ := h.dat y g cp k e
  exact ⟨zs, q1, q2, q3, q4, q5, q2.lt⟩, h.non, ⟨h.zx, h.lt⟩, ⟨h.zm, h.mp.lt⟩⟩
end Go.Proofs.YtldlejpacgphmabGreat
