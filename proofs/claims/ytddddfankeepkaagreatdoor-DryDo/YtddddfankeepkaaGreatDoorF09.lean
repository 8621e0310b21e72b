import Derived.Test.YtddddfankeepkaaGreatDoorF08
import Derived.Test.YtddddfankeepkaaGreatDoorF06
namespace Go.Proofs.YtddddfankeepkaaGreatDoor
open Go.RowKit
def nem (r : Rg) : Bool := !emp r
theorem empF_spec : ∀ (l : List Rg) (k : Nat), (empF l k = -1 ∧ ∀ r ∈ l, emp r = false) ∨ ∃ i, ∃ h : i < l.length, empF l k = ((k + i : Nat) : Int) ∧ (∀ r ∈ l.take i, emp r = false) ∧ emp l[i] = true
 | [], k => .inl ⟨rfl, by simp⟩
 | r :: l, k => by
  unfold empF
  by_cases h : emp r = true
  ·rw [if_pos h]
   exact .inr ⟨0, by simp, rfl, by simp, h⟩
  ·rw [if_neg h]
   have h' : emp r = false := by simpa using h
   rcases empF_spec l (k + 1) with ⟨e, ha⟩ | ⟨i, hi, e, ha, hb⟩
   ·exact .inl ⟨e, by simp; exact ⟨h', ha⟩⟩
   ·refine .inr ⟨i + 1, by simpa using hi, by rw [e]; congr 1; omega, ?_, by simpa using hb⟩
    intro x hx
    rw [List.take_succ_cons, List.mem_cons] at hx
    rcases hx with rfl | hx
    ·exact h'
    ·exact ha x hx
theorem filter_all {l : List Rg} (h : ∀ r ∈ l, emp r = false) : l.filter nem = l := List.filter_eq_self.2 fun r hr => by simp [nem, h r hr]
theorem filter_step {rs : List Rg} {j : Nat} (hj : j < rs.length) : (rs.take (j + 1)).filter nem = (rs.take j).filter nem ++ (if emp rs[j] then [] else [rs[j]]) := by
 rw [List.take_succ_eq_append_getElem hj, List.filter_append]
 congr 1
 by_cases h : emp rs[j] = true
 ·simp [nem, h]
 ·have h' : emp rs[j] = false := by simpa using h
  simp [nem, h']
theorem set_take {L : List Rg} {p : Nat} {v : Rg} (hp : p < L.length) : (L.set p v).take (p + 1) = L.take p ++ [v] := by
 rw [List.take_succ_eq_append_getElem (by simpa using hp), List.take_set_of_le (Nat.le_refl _)]
 simp
structure DfS (w wr : World) (g p j : Nat) (rs L : List Rg) : Prop where
 bl : BlR wr g L
 len : L.length = rs.length
 pj : p < j
 jn : j ≤ rs.length
 hd : L.take p = (rs.take j).filter nem
 tl : L.drop j = rs.drop j
 but : But (fun k => k = g) w wr
theorem DfS.at {w wr : World} {g p j : Nat} {rs L : List Rg} (h : DfS w wr g p j rs L) (hj : j < rs.length) : L[j]'(by have := h.len; omega) = rs[j] := by
 have e := h.tl
 rw [List.drop_eq_getElem_cons (by have := h.len; omega), List.drop_eq_getElem_cons hj] at e
 exact (List.cons.inj e).1
theorem DfS.skip {w wr w' : World} {g p j : Nat} {rs L : List Rg} (h : DfS w wr g p j rs L) (hj : j < rs.length) (he : emp rs[j] = true) (hb : Below wr.heap.size wr w') : DfS w w' g p (j + 1) rs L := by
 refine ⟨h.bl.keep (hb.block _ h.bl.lt), h.len, by have := h.pj; omega, hj, ?_, ?_, h.but.trans (But.of_below hb)⟩
 ·rw [filter_step hj, if_pos he, List.append_nil]
  exact h.hd
 ·rw [← List.drop_drop, ← List.drop_drop, h.tl]
theorem DfS.take {w wr w' y : World} {g p j : Nat} {rs L : List Rg} (h : DfS w wr g p j rs L) (hj : j < rs.length) (he : emp rs[j] = false) (hb : Below wr.heap.size wr w') (hy : y = (w'.setCell ⟨g, p * 2, none⟩ (.int .i64 rs[j].f)).setCell ⟨g, p * 2 + 1, none⟩ (.int .i64 rs[j].t)) : DfS w y g (p + 1) (j + 1) rs (L.set p rs[j]) := by
 have hl := h.len
 have hpj := h.pj
 have b1 := h.bl.keep (hb.block _ h.bl.lt)
 refine ⟨by rw [hy]; exact b1.set2 p rs[j] (by omega), by simp [hl], by omega, hj, ?_, ?_, ?_⟩
 ·rw [filter_step hj, if_neg (by simp [he]), ← h.hd, set_take (by omega)]
 ·rw [List.drop_set_of_lt (by omega), ← List.drop_drop, ← List.drop_drop, h.tl]
 ·rw [hy]
  exact ((h.but.trans (But.of_below hb)).setCell (p := ⟨g, p * 2, none⟩) rfl _).setCell (p := ⟨g, p * 2 + 1, none⟩) rfl _
def DfQ (w : World) (g : Nat) (rs : List Rg) (e : Ending) (w' : World) : Prop := ∃ cs : List Value, e = .returned (.slice (some ⟨g, 0, none⟩) (rs.filter nem).length rs.length) ∧ w'.heap[g]? = some (.cells cs.toArray 78 (0, 0)) ∧ cs.length = rs.length * 2 ∧ cs.take ((rs.filter nem).length * 2) = flatR (rs.filter nem) ∧ But (fun k => k = g) w w'
theorem flatR_take : ∀ (l : List Rg) (k : Nat), (flatR l).take (k * 2) = flatR (l.take k)
 | [], k => by simp [flatR]
 | r :: l, 0 => by simp [flatR]
 | r :: l, k + 1 => by
  have := flatR_take l k
  rw [List.take_succ_cons, flatR, flatR, show (k + 1) * 2 = k * 2 + 1 + 1 by omega, List.take_succ_cons, List.take_succ_cons, this]
theorem zer78 : ∀ u ∈ (Value.agg #[.int .i64 0, .int .i64 0]).cells.toList, u.oneCell' = true := by
 intro u hu
 simp only [Value.cells, List.mem_cons, List.not_mem_nil, or_false] at hu
 rcases hu with rfl | rfl <;> rfl
theorem DfS.done {w wr : World} {g p : Nat} {rs L : List Rg} (h : DfS w wr g p rs.length rs L) : p = (rs.filter nem).length ∧ ∃ W cs, (Builtin.clear_ #[36] 0 #[.slice (some ⟨g, p * 2, none⟩) (rs.length - p) (rs.length - p)]).run Tryz.prog wr = .ok (.tuple #[]) W ∧ W.heap[g]? = some (.cells (cs : List Value).toArray 78 (0, 0)) ∧ cs.length = rs.length * 2 ∧ cs.take (p * 2) = flatR (rs.filter nem) ∧ But (fun k => k = g) w W := by
 have hp := h.pj
 have hl := h.len
 have hd := h.hd
 rw [List.take_length] at hd
 obtain ⟨i0, hi0, hz0, hz1, hz2⟩ := info_parts info32
 obtain ⟨zs, hzl, hclr⟩ := clear_row (ty := 0) (sz := 2) wr Tryz.underlying36 hi0 hz0 rfl zer78 (by decide) g (p * 2) (rs.length - p) (rs.length - p) (flatR L) h.bl (by rw [flatR_len]; omega) (by omega)
 have e0 : ((flatR L).take (p * 2)).length = p * 2 := by rw [List.length_take, flatR_len]; omega
 refine ⟨by rw [← hd, List.length_take]; omega, _, _, hclr, setRow_heap wr g _ _ 78 _ h.bl, ?_, ?_, ?_⟩
 ·simp only [List.length_append, List.length_drop, e0, hzl, flatR_len]
  omega
 ·rw [List.append_assoc, List.take_left' e0, flatR_take, hd]
 ·exact h.but.trans ⟨rfl, rfl, rfl, by simp [World.setRow], fun k _ hk => setRow_other wr g k _ (by intro e; exact hk e)⟩
def DfI (w : World) (g : Nat) (rs : List Rg) (pv jv : Value) (wr : World) : Prop := ∃ (p j : Nat) (L : List Rg), pv = .int .i64 (p : Int) ∧ jv = .int .i64 (j : Int) ∧ DfS w wr g p j rs L
set_option maxRecDepth 100000 in
set_option maxHeartbeats 4000000 in
theorem DeleteFunc_any (g : Nat) (rs : List Rg) (w : World) (hl : rs.length ≤ 16777216) (hB : BlR w g rs) :
  Calls Tryz.prog 132 #[.slice (some ⟨g, 0, none⟩) rs.length rs.length, .func (.func 111) #[] #[]] w fun e w' => DfQ w g rs e w' := by
 have hR : RdR w.heap.size w (some ⟨g, 0, none⟩) rs := by
  have := hB.rd rs.length (Nat.le_refl _)
  rwa [List.take_length] at this
 have HC := hid (IndexEmpty_any (some ⟨g, 0, none⟩) rs.length rs w hl hR)
 have HB := hid hB
 clear hR hB
 rcases empF_spec rs 0 with ⟨e, ha⟩ | ⟨i, hi, e, ha, hb⟩
 ·rw [e] at HC
  have hf := filter_all ha
  have HF := hid hf
  clear hf e ha
  go_enter Tryz.func132, Tryz.ntmps132
  go_wp2_with fail
  refine HC.out.mono ?_
  rintro e w2 ⟨rfl, hb2⟩
  have HQ : Hid (DfQ w g rs (.returned (.slice (some ⟨g, 0, none⟩) rs.length rs.length)) w2) := hid (by
   refine ⟨flatR rs, by rw [HF.out], (HB.out.keep (hb2.block _ HB.out.lt)), flatR_len _, ?_, But.of_below hb2⟩
   rw [HF.out]
   exact List.take_of_length_le (by rw [flatR_len]; exact Nat.le_refl _))
  clear hb2 HC HB HF
  go_wp2
  go_ret
  exact HQ.out
 ·rw [e, Nat.zero_add] at HC
  have HF := hid (filter_all ha)
  have HE := hid hb
  clear e ha hb
  go_enter Tryz.func132, Tryz.ntmps132
  go_wp2_with fail
  refine HC.out.mono ?_
  rintro e w2 ⟨rfl, hb2⟩
  have H0 : Hid (DfS w w2 g i (i + 1) rs rs) := hid ⟨HB.out.keep (hb2.block _ HB.out.lt), rfl, by omega, hi, by rw [filter_step hi, HF.out, if_pos HE.out, List.append_nil], rfl, But.of_below hb2⟩
  have hi1 : ((i : Int) == -1) = false := by simp
  clear hb2 HC HB HF HE
  go_wp2_with fail
  go_loopw [5, 6] (fun pv jv wr => DfI w g rs pv jv wr) (fun _ jv _ => rs.length - (intOf jv).toNat)
  case atStart => exact ⟨i, i + 1, rs, rfl, by go_num, H0.out⟩
  case round =>
   clear H0
   obtain ⟨p, j, L, rfl, rfl, hS⟩ := hrel
   by_cases hlt : j < rs.length
   ·have hl2 := hS.len
    have hpj := hS.pj
    obtain ⟨d0, d1⟩ := hS.bl.cell j (by omega)
    have hat := hS.at hlt
    rw [hat] at d0 d1
    obtain ⟨W1, hW1⟩ : ∃ W1, W1 = wr.alloc (.cells #[.int .i64 rs[j].f, .int .i64 rs[j].t] 78) := ⟨_, rfl⟩
    have b1 : Below wr.heap.size wr W1 := by rw [hW1]; exact below1 _ _
    have HC := hid (isEmpty_any rs[j] W1)
    have HB1 := hid b1
    have HS := hid hS
    have HW1 := hid hW1
    have hj1 : (j : Int) < (rs.length : Int) := by omega
    have hp1 : (p : Int) < (rs.length : Int) := by omega
    clear hat hS hW1 b1 hl2
    by_cases he : rs[j].t ≤ rs[j].f
    ·have HX : Hid (∀ w', Below wr.heap.size wr w' → DfS w w' g p (j + 1) rs L) := hid fun w' hb => HS.out.skip hlt (by simpa [emp] using he) hb
     rw [decide_eq_true he] at HC
     clear HS he
     generalize rs[j] = v at *
     go_wp2_with fail
     rw [← HW1.out]
     refine HC.out.mono ?_
     rintro e w3 ⟨rfl, hb3⟩
     have HS3 := hid (HX.out w3 (HB1.out.trans (hb3.mono HB1.out.size)))
     clear hb3 HC HB1 HW1 HX d0 d1
     go_wp2
     go_roundw
     case rel => exact ⟨p, j + 1, L, rfl, by go_num, HS3.out⟩
     case measure => simp [intOf]; omega
    ·have HX : Hid (∀ w' y, Below wr.heap.size wr w' → y = (w'.setCell ⟨g, p * 2, none⟩ (.int .i64 rs[j].f)).setCell ⟨g, p * 2 + 1, none⟩ (.int .i64 rs[j].t) → DfS w y g (p + 1) (j + 1) rs (L.set p rs[j])) := hid fun w' y hb hy => HS.out.take hlt (by simpa [emp] using he) hb hy
     rw [decide_eq_false he] at HC
     clear he
     generalize rs[j] = v at *
     go_wp2_with fail
     rw [← HW1.out]
     refine HC.out.mono ?_
     rintro e w3 ⟨rfl, hb3⟩
     have hb4 := HB1.out.trans (hb3.mono HB1.out.size)
     have b3 := HS.out.bl.keep (hb4.block _ HS.out.bl.lt)
     obtain ⟨z0, z1, k0, k1⟩ : ∃ z0 z1, w3.cell? ⟨g, p * 2, none⟩ = some z0 ∧ w3.cell? ⟨g, p * 2 + 1, none⟩ = some z1 := ⟨_, _, b3.cell p (by have := HS.out.len; have := HS.out.pj; have := HS.out.jn; omega)⟩
     have f0 := b3.frozen (p * 2)
     have f1 := b3.frozen (p * 2 + 1)
     have hw1 : wr.heap.size < W1.heap.size := by rw [HW1.out]; simp
     obtain ⟨m0, m1⟩ : w3.cell? ⟨wr.heap.size, 0, none⟩ = some (.int .i64 v.f) ∧ w3.cell? ⟨wr.heap.size, 1, none⟩ = some (.int .i64 v.t) := by
      have hN : RgB W1 wr.heap.size v := by rw [HW1.out]; exact heap_new _ _
      exact (hN.keep (hb3.block _ hN.lt)).cs
     have HS3 := hid (fun y hy => HX.out w3 y hb4 hy)
     clear hb3 hb4 b3 HC HB1 HW1 HX HS d0 d1 hw1
     go_wp2
     go_roundw
     case rel => exact ⟨p + 1, j + 1, _, by go_num, by go_num, HS3.out _ rfl⟩
     case measure => simp [intOf]; omega
   ·have ej : j = rs.length := by have := hS.jn; omega
    subst ej
    obtain ⟨hp, W, cs, hclr, h1, h2, h3, h4⟩ := hS.done
    have hpn := hS.pj
    have HQ : Hid (DfQ w g rs (.returned (.slice (some ⟨g, 0, none⟩) p rs.length)) W) := hid ⟨cs, by rw [hp], h1, h2, by rw [← hp]; exact h3, h4⟩
    have hp1 : (p : Int) ≤ (rs.length : Int) := by omega
    have hpc : ¬ (rs.length = p) := by omega
    clear hS h1 h2 h3 h4 hp
    go_wp2
    go_ret
    exact HQ.out
set_option maxRecDepth 100000 in
set_option maxHeartbeats 1000000 in
theorem withoutEmpty_any (g : Nat) (rs : List Rg) (w : World) (hl : rs.length ≤ 16777216) (hB : BlR w g rs) :
  Calls Tryz.prog 113 #[.slice (some ⟨g, 0, none⟩) rs.length rs.length] w fun e w' => DfQ w g rs e w' := by
 have HC := hid (DeleteFunc_any g rs w hl hB)
 clear hB
 go_enter Tryz.func113, Tryz.ntmps113
 go_wp2_with fail
 refine HC.out.mono ?_
 rintro e w2 ⟨cs, rfl, h1, h2, h3, h4⟩
 have HQ : Hid (DfQ w g rs (.returned (.slice (some ⟨g, 0, none⟩) (rs.filter nem).length rs.length)) w2) := hid ⟨cs, rfl, h1, h2, h3, h4⟩
 clear h1 h2 h3 h4 HC
 generalize (rs.filter nem).length = k at *
 go_wp2
 go_ret
 exact HQ.out
end Go.Proofs.YtddddfankeepkaaGreatDoor
namespace Go.Proofs.YtddddfankeepkaaGreatDoor
open Go.RowKit
/-! ### lists -/
theorem put_two {α : Type} (L0 p news tail L1 L2 : List α) (a s : Nat) (hp : L0.take a = p) (ha : a ≤ L0.length) (hs : news.length = s)
  (h1 : L1 = L0.take a ++ news ++ L0.drop (a + news.length)) (h2 : L2 = L1.take (a + s) ++ tail ++ L1.drop (a + s + tail.length)) :
  L2 = p ++ news ++ tail ++ L0.drop (a + s + tail.length) := by
 have e0 : p.length = a := by rw [← hp, List.length_take]; omega
 have e3 : L1 = p ++ news ++ L0.drop (a + s) := by rw [h1, hp, hs]
 have e4 : L1.take (a + s) = p ++ news := by
  rw [e3]
  exact List.take_left' (by simp; omega)
 have e5 : L1.drop (a + s + tail.length) = L0.drop (a + s + tail.length) := by
  rw [e3, List.drop_append, List.drop_of_length_le (by simp; omega), List.nil_append, List.drop_drop]
  congr 1
  simp
  omega
 rw [h2, e4, e5]
theorem put_two' {α : Type} (L0 p news tail L1 L2 : List α) (a s : Nat) (hp : L0.take a = p) (hs : news.length = s) (ha : a + s ≤ L0.length)
  (h1 : L1 = L0.take (a + s) ++ tail ++ L0.drop (a + s + tail.length)) (h2 : L2 = L1.take a ++ news ++ L1.drop (a + news.length)) :
  L2 = p ++ news ++ tail ++ L0.drop (a + s + tail.length) := by
 have e0 : (L0.take (a + s)).length = a + s := by rw [List.length_take]; omega
 have e1 : L1.take a = p := by
  rw [h1, List.append_assoc, List.take_append_of_le_length (by omega), List.take_take, Nat.min_eq_left (by omega), hp]
 have e2 : L1.drop (a + s) = tail ++ L0.drop (a + s + tail.length) := by
  rw [h1, List.append_assoc, List.drop_left' e0]
 rw [h2, hs, e1, e2]
 simp
structure RpC (w : World) (B n cap g h k : Nat) (xs sp news nsp : List Value) : Prop where
 hg : w.heap[g]? = some (.cells (xs ++ sp).toArray 78 (0, 0))
 hBg : B ≤ g
 hxl : xs.length = n * 2
 hsl : (xs ++ sp).length = cap * 2
 hcap : cap ≤ maxLen
 hnc : n ≤ cap
 hh : w.heap[h]? = some (.cells (news ++ nsp).toArray 78 (0, 0))
 hne : h ≠ g
 hnl : news.length = k * 2
 h1 : ∀ u ∈ news, u.oneCell' = true
 h1x : ∀ u ∈ xs, u.oneCell' = true
 hn : n ≤ 16777216
 hk : k ≤ 2
theorem RpC.src {w w1 : World} {B n cap g h k : Nat} {xs sp news nsp : List Value} (H : RpC w B n cap g h k xs sp news nsp) (hw : w1.heap[h]? = w.heap[h]?) : ∀ j u, news[j]? = some u → w1.cell? ((⟨h, 0, none⟩ : Addr).add j) = some u := fun j u hu => by
 rw [Addr.add_lit, Nat.zero_add]
 simp only [World.cell?, hw, H.hh]
 rw [List.getElem?_toArray, List.getElem?_append_left (List.getElem?_eq_some_iff.1 hu).1]
 simpa using hu
theorem row_src {w1 : World} {g a : Nat} {L tail : List Value} (hg : w1.heap[g]? = some (.cells L.toArray 78 (0, 0))) (ht : ∀ j u, tail[j]? = some u → L[a + j]? = some u) : ∀ j u, tail[j]? = some u → w1.cell? ((⟨g, a, none⟩ : Addr).add j) = some u := fun j u hu => by
 rw [Addr.add_lit]
 simp only [World.cell?, hg]
 rw [List.getElem?_toArray]
 simpa using ht j u hu
theorem InsP_of {w W : World} {B cap g m : Nat} {L ys rest : List Value} {v : Value} (hv : v.ownBlock = some g) (hBg : B ≤ g) (hg : W.heap[g]? = some (.cells L.toArray 78 (0, 0))) (hL : L = ys ++ rest) (hy : ys.length = m * 2) (hl : L.length = cap * 2) (hm : m ≤ cap) (hc : cap ≤ maxLen) (hw : w.grownBy W (some g)) : InsP B w v m ys (.returned (.slice (some ⟨g, 0, none⟩) m cap)) W :=
 ⟨_, rfl, ⟨hy, .inr ⟨g, cap, L.toArray, rfl, hBg, hg, hm, hc, by rw [List.size_toArray, hl], by show L.take _ = _; rw [hL]; exact List.take_left' hy⟩⟩, by rw [hv]; exact hw, fun _ hb => .inl (hv.trans hb)⟩
theorem grown_set1 {w W : World} {g : Nat} (h : w.grownBy W (some g)) (cs : Array Value) : w.grownBy (W.setRow g cs) (some g) :=
 ⟨h.os, h.tape, h.output, by have := h.size; simp [World.setRow]; exact this, fun k hk hne => (setRow_other _ g k _ (fun e => hne (by rw [e]))).trans (h.block k hk hne)⟩
theorem grown_refl (w : World) (r : Option Nat) : w.grownBy w r := ⟨rfl, rfl, rfl, Nat.le_refl _, fun _ _ _ => rfl⟩
theorem grown_drew {w W : World} {r : Option Nat} (h : w.grownBy W r) : w.grownBy W.drew r := ⟨h.os, h.tape, h.output, h.size, h.block⟩
theorem RpC.keep {w u : World} {B n cap g h k : Nat} {xs sp news nsp : List Value} (H : RpC w B n cap g h k xs sp news nsp) (e : u.heap = w.heap) : RpC u B n cap g h k xs sp news nsp :=
 ⟨by rw [e]; exact H.hg, H.hBg, H.hxl, H.hsl, H.hcap, H.hnc, by rw [e]; exact H.hh, H.hne, H.hnl, H.h1, H.h1x, H.hn, H.hk⟩
theorem InsP.drewN {w u : World} {B m : Nat} {v : Value} {ys : List Value} {e : Ending} {w' : World} {q : Nat} (hu : w.drewN q = u) (h : InsP B u v m ys e w') : InsP B w v m ys e w' := by
 obtain ⟨v', e1, e2, e3, e4⟩ := h
 subst hu
 exact ⟨v', e1, e2, ⟨e3.os, e3.tape, e3.output, e3.size, e3.block⟩, e4⟩
set_option maxRecDepth 100000 in
set_option maxHeartbeats 4000000 in
theorem fits_runs (B cap g h i j k n d q m tot kq : Nat) (xs sp news nsp : List Value) (w : World) (e1 : i + k = m) (e2 : m + d = j) (e3 : j + q = n) (e4 : m + q = tot) (e5 : k + q = kq) (hq : 0 < q) (H : RpC w B n cap g h k xs sp news nsp) :
  ∃ W1 W2 W3, (∀ dc sc, (Builtin.copy_ #[36, 36] 3 #[.slice (some ⟨g, i * 2, none⟩) kq dc, .slice (some ⟨h, 0, none⟩) k sc]).run Tryz.prog w = .ok (goInt (k : Int)) W1) ∧ (∀ dc sc, (Builtin.copy_ #[36, 36] 3 #[.slice (some ⟨g, m * 2, none⟩) q dc, .slice (some ⟨g, j * 2, none⟩) q sc]).run Tryz.prog W1.drew = .ok (goInt (q : Int)) W2) ∧ (Builtin.clear_ #[36] 0 #[if cap = tot then .slice (some ⟨g, 0, none⟩) d 0 else .slice (some ⟨g, tot * 2, none⟩) d (cap - tot)]).run Tryz.prog W2 = .ok (.tuple #[]) W3 ∧ InsP B w (.slice (some ⟨g, 0, none⟩) n cap) tot (xs.take (i * 2) ++ news ++ xs.drop (j * 2)) (.returned (.slice (some ⟨g, 0, none⟩) tot cap)) W3 := by
 obtain ⟨i0, hi0, hz0, hz1, hz2⟩ := info_parts info32
 have hxl := H.hxl
 have hsl := H.hsl
 have hnl := H.hnl
 have hnc := H.hnc
 have hn := H.hn
 have hk2 := H.hk
 obtain ⟨tail, htl⟩ : ∃ tail, tail = xs.drop (j * 2) := ⟨_, rfl⟩
 have htn : tail.length = q * 2 := by rw [htl, List.length_drop, hxl]; omega
 rw [← htl]
 obtain ⟨L1, hL1⟩ : ∃ L1, L1 = (xs ++ sp).take (i * 2) ++ news ++ (xs ++ sp).drop (i * 2 + news.length) := ⟨_, rfl⟩
 have hl1 : L1.length = cap * 2 := by rw [hL1]; simp only [List.length_append, List.length_take, List.length_drop] at hsl ⊢; omega
 have hcp1 : ∀ dc sc, (Builtin.copy_ #[36, 36] 3 #[.slice (some ⟨g, i * 2, none⟩) kq dc, .slice (some ⟨h, 0, none⟩) k sc]).run Tryz.prog w = .ok (goInt (k : Int)) (w.setRow g L1.toArray) := fun dc sc => by
  have hm : Nat.min k kq = k := Nat.min_eq_left (by omega)
  have := run_copy_wide (P := Tryz.prog) w 36 36 3 78 g (i * 2) kq dc ⟨h, 0, none⟩ k sc 2 (xs ++ sp).toArray 78 news Tryz.underlying36 info78zz H.hg (by rw [hnl, hm]) (H.src rfl) (by simp only [List.size_toArray, hsl, hnl]; omega) H.h1
  rw [hm] at this
  rw [hL1]
  simpa only [List.toList_toArray] using this
 obtain ⟨W1, hW1⟩ : ∃ W1, W1 = w.setRow g L1.toArray := ⟨_, rfl⟩
 have hg1 : W1.heap[g]? = some (.cells L1.toArray 78 (0, 0)) := by rw [hW1]; exact setRow_heap w g _ _ 78 _ H.hg
 have gr1 : w.grownBy W1 (some g) := by rw [hW1]; exact grown_set1 (grown_refl _ _) _
 rw [← hW1] at hcp1
 obtain ⟨L2, hL2⟩ : ∃ L2, L2 = L1.take (i * 2 + k * 2) ++ tail ++ L1.drop (i * 2 + k * 2 + tail.length) := ⟨_, rfl⟩
 have hl2 : L2.length = cap * 2 := by rw [hL2]; simp only [List.length_append, List.length_take, List.length_drop, hl1, htn]; omega
 have hpre : (xs ++ sp).take (i * 2) = xs.take (i * 2) := List.take_append_of_le_length (by omega)
 have hfin := put_two (xs ++ sp) (xs.take (i * 2)) news tail L1 L2 (i * 2) (k * 2) hpre (by rw [hsl]; omega) hnl hL1 hL2
 have hcp2 : ∀ dc sc, (Builtin.copy_ #[36, 36] 3 #[.slice (some ⟨g, m * 2, none⟩) q dc, .slice (some ⟨g, j * 2, none⟩) q sc]).run Tryz.prog W1.drew = .ok (goInt (q : Int)) (W1.drew.setRow g L2.toArray) := fun dc sc => by
  have hm : Nat.min q q = q := Nat.min_self _
  have := run_copy_wide (P := Tryz.prog) W1.drew 36 36 3 78 g (m * 2) q dc ⟨g, j * 2, none⟩ q sc 2 L1.toArray 78 tail Tryz.underlying36 info78zz hg1 (by rw [htn, hm]) (row_src (w1 := W1.drew) hg1 (fun t u hu => by
   have hj := (List.getElem?_eq_some_iff.1 hu).1
   rw [htl, List.getElem?_drop] at hu
   rw [hL1, List.getElem?_append_right (by simp only [List.length_append, List.length_take, hnl, hsl]; omega), List.getElem?_drop]
   simp only [List.length_append, List.length_take, hnl] at hsl ⊢
   rw [show i * 2 + k * 2 + (j * 2 + t - (min (i * 2) (xs.length + sp.length) + k * 2)) = j * 2 + t by omega, List.getElem?_append_left (List.getElem?_eq_some_iff.1 hu).1]
   exact hu)) (by simp only [List.size_toArray, hl1, htn]; omega) (fun u hu => H.h1x u (List.mem_of_mem_drop (by rw [← htl]; exact hu)))
  rw [hm, show m * 2 = i * 2 + k * 2 by omega] at this
  rw [show m * 2 = i * 2 + k * 2 by omega, hL2]
  simpa only [List.toList_toArray] using this
 obtain ⟨W2, hW2⟩ : ∃ W2, W2 = W1.drew.setRow g L2.toArray := ⟨_, rfl⟩
 have hg2 : W2.heap[g]? = some (.cells L2.toArray 78 (0, 0)) := by rw [hW2]; exact setRow_heap W1.drew g _ _ 78 _ hg1
 have gr2 : w.grownBy W2 (some g) := by rw [hW2]; exact grown_set1 (grown_drew gr1) _
 rw [← hW2] at hcp2
 have e0 : (xs.take (i * 2) ++ news ++ tail).length = tot * 2 := by simp only [List.length_append, List.length_take, htn, hnl]; omega
 have HCL : Hid (∃ W3, (Builtin.clear_ #[36] 0 #[if cap = tot then .slice (some ⟨g, 0, none⟩) d 0 else .slice (some ⟨g, tot * 2, none⟩) d (cap - tot)]).run Tryz.prog W2 = .ok (.tuple #[]) W3 ∧ InsP B w (.slice (some ⟨g, 0, none⟩) n cap) tot (xs.take (i * 2) ++ news ++ tail) (.returned (.slice (some ⟨g, 0, none⟩) tot cap)) W3) := by
  by_cases hd0 : d = 0
  ·subst hd0
   refine ⟨W2, ?_, InsP_of rfl H.hBg hg2 hfin e0 hl2 (by omega) H.hcap gr2⟩
   split <;> simp [Builtin.clear_]
  ·rw [if_neg (by omega)]
   obtain ⟨zs, hzl, hclr⟩ := clear_row (ty := 0) (sz := 2) W2 Tryz.underlying36 hi0 hz0 rfl zer78 (by decide) g (tot * 2) d (cap - tot) L2 hg2 (by rw [hl2]; omega) (by omega)
   have hpre2 : L2.take (tot * 2) = xs.take (i * 2) ++ news ++ tail := by rw [hfin]; exact List.take_left' e0
   refine ⟨_, hclr, InsP_of rfl H.hBg (setRow_heap W2 g _ _ 78 _ hg2) (rest := zs ++ L2.drop (tot * 2 + zs.length)) (by rw [hpre2, List.append_assoc]) e0 ?_ (by omega) H.hcap (grown_set1 gr2 _)⟩
   simp only [List.length_append, List.length_take, List.length_drop, hzl, hl2]
   omega
 obtain ⟨W3, hclr, hQ⟩ := HCL.out
 exact ⟨W1, W2, W3, hcp1, hcp2, hclr, hQ⟩
set_option maxRecDepth 100000 in
set_option maxHeartbeats 8000000 in
theorem Repl_fits (B cap g h i j k n d q m tot kq kc : Nat) (xs sp news nsp : List Value) (w : World) (e1 : i + k = m) (e2 : m + d = j) (e3 : j + q = n) (e4 : m + q = tot) (e5 : k + q = kq) (hd : i < j) (hq : 0 < q) (H : RpC w B n cap g h k xs sp news nsp) :
  Calls Tryz.prog 112 #[.slice (some ⟨g, 0, none⟩) n cap, .int .i64 (i : Int), .int .i64 (j : Int), .slice (some ⟨h, 0, none⟩) k kc] w fun e w' => InsP B w (.slice (some ⟨g, 0, none⟩) n cap) tot (xs.take (i * 2) ++ news ++ xs.drop (j * 2)) e w' := by
 have hnc := H.hnc
 have hn := H.hn
 have hk2 := H.hk
 have HF := hid (fun u nq (hu : w.drewN nq = u) => fits_runs B cap g h i j k n d q m tot kq xs sp news nsp u e1 e2 e3 e4 e5 hq (H.keep (by rw [← hu]; rfl)))
 clear H
 generalize xs.take (i * 2) ++ news ++ xs.drop (j * 2) = ys at *
 have g1 : ¬ ((i : Int) = (j : Int)) := by omega
 have g2 : ¬ ((j : Int) = (n : Int)) := by omega
 have g3 : (i : Int) ≤ (j : Int) := by omega
 have g4 : (j : Int) ≤ (cap : Int) := by omega
 have g4' : (j : Int) ≤ (n : Int) := by omega
 have g5 : (i : Int) ≤ (cap : Int) := by omega
 have g6 : n - j = q := by omega
 have g7 : IntKind.i64.wrap ((i : Int) + (k : Int)) = (m : Int) := by rw [IntKind.wrap_i64]; omega
 have g8 : IntKind.i64.wrap ((m : Int) + (q : Int)) = (tot : Int) := by rw [IntKind.wrap_i64]; omega
 have g9 : ¬ ((cap : Int) < (tot : Int)) := by omega
 have g10 : (tot : Int) ≤ (cap : Int) := by omega
 have g11 : tot - m = q := by omega
 have g12 : tot - i = kq := by omega
 have g13 : ¬ (cap = i) := by omega
 have g14 : ¬ (cap = m) := by omega
 have g15 : ¬ (cap = j) := by omega
 have g16 : (m : Int) ≤ (j : Int) := by omega
 have g17 : (m : Int) ≤ (tot : Int) := by omega
 have g18 : (i : Int) ≤ (tot : Int) := by omega
 have g19 : (tot : Int) ≤ (n : Int) := by omega
 have g20 : n - tot = d := by omega
 have mixed : Tryz.prog.follows Departure.mixedOrders = true := by kernel_rfl
 clear e1 e2 e3 e4 e5 hd hq hnc hn hk2
 by_cases hct : cap = tot
 ·subst hct
  go_enter Tryz.func112, Tryz.ntmps112
  go_wp2_with fail
  go_quiet (fail)
  generalize hU : w.drewN _ = U
  obtain ⟨W1, W2, W3, hcp1, hcp2, hclr, hQ⟩ := HF.out U _ hU
  have HQ := hid (InsP.drewN hU hQ)
  simp only [↓reduceIte] at hclr
  clear hQ hU HF
  go_wp2_with (at_builtin; refine wpList_copy_runI _ rfl _ _ 36 36 rfl _ _ rfl rfl (hcp1 _ _) ?_)
  go_region_law_o (refine step_copy_runI rfl _ _ 36 36 rfl _ _ (by simp [Act.eval, Act.put]) (by simp [Act.eval, Act.put]) (hcp2 _ _) ?_)
  go_wp2
  go_ret
  exact HQ.out
 ·go_enter Tryz.func112, Tryz.ntmps112
  go_wp2_with fail
  go_quiet (fail)
  generalize hU : w.drewN _ = U
  obtain ⟨W1, W2, W3, hcp1, hcp2, hclr, hQ⟩ := HF.out U _ hU
  have HQ := hid (InsP.drewN hU hQ)
  rw [if_neg hct] at hclr
  clear hQ hU HF
  go_wp2_with (at_builtin; refine wpList_copy_runI _ rfl _ _ 36 36 rfl _ _ rfl rfl (hcp1 _ _) ?_)
  go_region_law_o (refine step_copy_runI rfl _ _ 36 36 rfl _ _ (by simp [Act.eval, Act.put]) (by simp [Act.eval, Act.put]) (hcp2 _ _) ?_)
  go_wp2
  go_ret
  exact HQ.out
end Go.Proofs.YtddddfankeepkaaGreatDoor
namespace Go.Proofs.YtddddfankeepkaaGreatDoor
open Go.RowKit
set_option maxRecDepth 100000 in
set_option maxHeartbeats 8000000 in
theorem Repl_endLess (B cap g h i k n d m kc : Nat) (xs sp news nsp : List Value) (w : World) (e1 : i + k = m) (e2 : m + d = n) (hd : 0 < d) (H : RpC w B n cap g h k xs sp news nsp) :
  Calls Tryz.prog 112 #[.slice (some ⟨g, 0, none⟩) n cap, .int .i64 (i : Int), .int .i64 (n : Int), .slice (some ⟨h, 0, none⟩) k kc] w fun e w' => InsP B w (.slice (some ⟨g, 0, none⟩) n cap) m (xs.take (i * 2) ++ news) e w' := by
 obtain ⟨i0, hi0, hz0, hz1, hz2⟩ := info_parts info32
 have hxl := H.hxl
 have hsl := H.hsl
 have hnl := H.hnl
 have hnc := H.hnc
 have hn := H.hn
 have hk2 := H.hk
 obtain ⟨L1, hL1⟩ : ∃ L1, L1 = (xs ++ sp).take (i * 2) ++ news ++ (xs ++ sp).drop (i * 2 + news.length) := ⟨_, rfl⟩
 have hl1 : L1.length = cap * 2 := by rw [hL1]; simp only [List.length_append, List.length_take, List.length_drop] at hsl ⊢; omega
 have hpre : (xs ++ sp).take (i * 2) = xs.take (i * 2) := List.take_append_of_le_length (by omega)
 have e0 : (xs.take (i * 2) ++ news).length = m * 2 := by simp only [List.length_append, List.length_take, hnl]; omega
 obtain ⟨W1, hW1⟩ : ∃ W1, W1 = w.setRow g L1.toArray := ⟨_, rfl⟩
 have r1 : (Builtin.append_ #[36, 36] 36 #[.slice (some ⟨g, 0, none⟩) i cap, .slice (some ⟨h, 0, none⟩) k kc]).run Tryz.prog w = .ok (.slice (some ⟨g, 0, none⟩) m cap) W1 := by
  have := run_append_room (P := Tryz.prog) w 36 36 78 i0 Tryz.underlying36 hi0 g i cap (xs ++ sp).toArray H.hg ⟨h, 0, none⟩ k kc news (by rw [hnl, hz1]) (H.src rfl) H.h1 (by omega) (by rw [hz1, hnl, List.size_toArray, hsl]; omega)
  rw [hz1, e1] at this
  rw [hW1, hL1]
  simpa only [List.toList_toArray] using this
 have hg1 : W1.heap[g]? = some (.cells L1.toArray 78 (0, 0)) := by rw [hW1]; exact setRow_heap w g _ _ 78 _ H.hg
 have gr1 : w.grownBy W1 (some g) := by rw [hW1]; exact grown_set1 (grown_refl _ _) _
 obtain ⟨zs, hzl, hclr⟩ := clear_row (ty := 0) (sz := 2) W1 Tryz.underlying36 hi0 hz0 rfl zer78 (by decide) g (m * 2) d (cap - m) L1 hg1 (by rw [hl1]; omega) hd
 have hpre2 : L1.take (m * 2) = xs.take (i * 2) ++ news := by rw [hL1, hpre]; exact List.take_left' e0
 obtain ⟨W2, hW2⟩ : ∃ W2, W2 = W1.setRow g (L1.take (m * 2) ++ zs ++ L1.drop (m * 2 + zs.length)).toArray := ⟨_, rfl⟩
 have HQ : Hid (InsP B w (.slice (some ⟨g, 0, none⟩) n cap) m (xs.take (i * 2) ++ news) (.returned (.slice (some ⟨g, 0, none⟩) m cap)) W2) := by
  rw [hW2]
  refine InsP_of rfl H.hBg (setRow_heap W1 g _ _ 78 _ hg1) (rest := zs ++ L1.drop (m * 2 + zs.length)) (by rw [hpre2, List.append_assoc]) e0 ?_ (by omega) H.hcap (grown_set1 gr1 _)
  simp only [List.length_append, List.length_take, List.length_drop, hzl, hl1]
  omega
 rw [← hW2] at hclr
 clear hL1 hl1 hpre e0 hW1 hg1 gr1 hpre2 hW2 hzl hxl hsl hnl hi0 hz0 hz1 hz2 H
 generalize xs.take (i * 2) ++ news = ys at *
 have g1 : ¬ ((i : Int) = (n : Int)) := by omega
 have g3 : (i : Int) ≤ (n : Int) := by omega
 have g4 : (n : Int) ≤ (cap : Int) := by omega
 have g5 : (i : Int) ≤ (cap : Int) := by omega
 have g6 : (m : Int) < (n : Int) := by omega
 have g6' : (m : Int) ≤ (n : Int) := by omega
 have g7 : ¬ (cap = m) := by omega
 have g8 : n - m = d := by omega
 clear e1 e2 hd hnc hn hk2
 go_enter Tryz.func112, Tryz.ntmps112
 go_wp2_with (at_builtin; refine Lib.wpList_append_run _ rfl _ _ _ _ rfl _ _ rfl rfl _ _ r1 ?_)
 go_ret
 exact HQ.out
set_option maxRecDepth 100000 in
set_option maxHeartbeats 8000000 in
theorem Repl_endMore (B cap g h i k n m kc : Nat) (xs sp news nsp : List Value) (w : World) (e1 : i + k = m) (e2 : n ≤ m) (hi : i < n) (hB : B ≤ w.heap.size) (H : RpC w B n cap g h k xs sp news nsp) :
  Calls Tryz.prog 112 #[.slice (some ⟨g, 0, none⟩) n cap, .int .i64 (i : Int), .int .i64 (n : Int), .slice (some ⟨h, 0, none⟩) k kc] w fun e w' => InsP B w (.slice (some ⟨g, 0, none⟩) n cap) m (xs.take (i * 2) ++ news) e w' := by
 obtain ⟨i0, hi0, hz0, hz1, hz2⟩ := info_parts info32
 have hxl := H.hxl
 have hsl := H.hsl
 have hnl := H.hnl
 have hnc := H.hnc
 have hn := H.hn
 have hk2 := H.hk
 have hown : w.ownsRow B 78 2 (.slice (some ⟨g, 0, none⟩) i cap) i (xs.take (i * 2)) := by
  refine ⟨by rw [List.length_take]; omega, .inr ⟨g, cap, _, rfl, H.hBg, H.hg, by omega, H.hcap, by rw [List.size_toArray, hsl], ?_⟩⟩
  show (xs ++ sp).take (i * 2) = _
  exact List.take_append_of_le_length (by omega)
 obtain ⟨v', w', r1, ho, hgr, _, hb⟩ := run_append_own_at (P := Tryz.prog) w B 36 36 78 i0 _ 2 16 Tryz.underlying36 hi0 hz0 hz1 hz2 rfl (by decide) _ i (xs.take (i * 2)) hown ⟨h, 0, none⟩ k kc news hnl (H.src rfl) H.h1 (by unfold maxLen; omega) (by omega) hB
 rw [e1] at ho
 obtain ⟨a, c, rfl⟩ : ∃ a c, v' = .slice a m c := by
  rcases own_form ho with ⟨rfl, q⟩ | ⟨g', c, e, _⟩
  ·exact ⟨none, 0, by rw [q]⟩
  ·exact ⟨_, c, e⟩
 have HQ : Hid (InsP B w (.slice (some ⟨g, 0, none⟩) n cap) m (xs.take (i * 2) ++ news) (.returned (.slice a m c)) w') := ⟨_, rfl, ho, hgr, OwnB.of hb⟩
 clear ho hgr hown hxl hsl hnl hi0 hz0 hz1 hz2 H hb
 generalize xs.take (i * 2) ++ news = ys at *
 have g1 : ¬ ((i : Int) = (n : Int)) := by omega
 have g3 : (i : Int) ≤ (n : Int) := by omega
 have g4 : (n : Int) ≤ (cap : Int) := by omega
 have g5 : (i : Int) ≤ (cap : Int) := by omega
 have g6 : ¬ ((m : Int) < (n : Int)) := by omega
 clear e1 e2 hi hB hnc hn hk2
 go_enter Tryz.func112, Tryz.ntmps112
 go_wp2_with (at_builtin; refine Lib.wpList_append_run _ rfl _ _ _ _ rfl _ _ rfl rfl _ _ r1 ?_)
 go_ret
 exact HQ.out
set_option maxRecDepth 100000 in
set_option maxHeartbeats 4000000 in
theorem more_runs (B cap g h i j k n q m tot kq kc : Nat) (xs sp news nsp : List Value) (w : World) (e1 : i + k = m) (e3 : j + q = n) (e4 : m + q = tot) (e5 : k + q = kq) (hq : 0 < q) (hj : i < j) (hc : tot ≤ cap) (hmj : j < m) (H : RpC w B n cap g h k xs sp news nsp) :
  ∃ W1 W2, (∀ lb cb, (callFunc 129 #[.slice (some ⟨g, m * 2, none⟩) lb cb, .slice (some ⟨h, 0, none⟩) k kc]).run Tryz.prog w = .ok (.value (.bool false)) w) ∧ (∀ dc sc, (Builtin.copy_ #[36, 36] 3 #[.slice (some ⟨g, m * 2, none⟩) q dc, .slice (some ⟨g, j * 2, none⟩) q sc]).run Tryz.prog w.drew = .ok (goInt (q : Int)) W1) ∧ (∀ dc sc, (Builtin.copy_ #[36, 36] 3 #[.slice (some ⟨g, i * 2, none⟩) kq dc, .slice (some ⟨h, 0, none⟩) k sc]).run Tryz.prog W1 = .ok (goInt (k : Int)) W2) ∧ InsP B w (.slice (some ⟨g, 0, none⟩) n cap) tot (xs.take (i * 2) ++ news ++ xs.drop (j * 2)) (.returned (.slice (some ⟨g, 0, none⟩) tot cap)) W2 := by
 have hxl := H.hxl
 have hsl := H.hsl
 have hnl := H.hnl
 have hnc := H.hnc
 have hk2 := H.hk
 obtain ⟨tail, htl⟩ : ∃ tail, tail = xs.drop (j * 2) := ⟨_, rfl⟩
 have htn : tail.length = q * 2 := by rw [htl, List.length_drop, hxl]; omega
 rw [← htl]
 have hov : ∀ lb cb, (callFunc 129 #[.slice (some ⟨g, m * 2, none⟩) lb cb, .slice (some ⟨h, 0, none⟩) k kc]).run Tryz.prog w = .ok (.value (.bool false)) w := fun lb cb => by
  rw [run_callFunc_extern Tryz.func129 (by kernel_rfl) (by kernel_rfl) (by kernel_rfl) (e := Extern.SlicesOverlaps.overlaps #[36, 36] #[4]) (by kernel_rfl),
   Lib.run_overlaps_apart w 36 4 78 Tryz.underlying36 2 run_sizeOf78 ⟨g, m * 2, none⟩ ⟨h, 0, none⟩ lb cb k kc (Ne.symm H.hne) 78 78 _ _ (shape_cells H.hg) (shape_cells H.hh) (by rw [List.size_toArray, List.length_append, hnl]; omega) (by simp [World.frozen?, H.hg]) (by simp [World.frozen?, H.hg])]
  rfl
 obtain ⟨L1, hL1⟩ : ∃ L1, L1 = (xs ++ sp).take (i * 2 + k * 2) ++ tail ++ (xs ++ sp).drop (i * 2 + k * 2 + tail.length) := ⟨_, rfl⟩
 have hl1 : L1.length = cap * 2 := by rw [hL1]; simp only [List.length_append, List.length_take, List.length_drop, htn] at hsl ⊢; omega
 have hcp1 : ∀ dc sc, (Builtin.copy_ #[36, 36] 3 #[.slice (some ⟨g, m * 2, none⟩) q dc, .slice (some ⟨g, j * 2, none⟩) q sc]).run Tryz.prog w.drew = .ok (goInt (q : Int)) (w.drew.setRow g L1.toArray) := fun dc sc => by
  have hm : Nat.min q q = q := Nat.min_self _
  have := run_copy_wide (P := Tryz.prog) w.drew 36 36 3 78 g (m * 2) q dc ⟨g, j * 2, none⟩ q sc 2 (xs ++ sp).toArray 78 tail Tryz.underlying36 info78zz H.hg (by rw [htn, hm]) (row_src (w1 := w.drew) H.hg (fun t u hu => by
   rw [htl, List.getElem?_drop] at hu
   rw [List.getElem?_append_left (List.getElem?_eq_some_iff.1 hu).1]
   exact hu)) (by simp only [List.size_toArray, hsl, htn]; omega) (fun u hu => H.h1x u (List.mem_of_mem_drop (by rw [← htl]; exact hu)))
  rw [hm, show m * 2 = i * 2 + k * 2 by omega] at this
  rw [show m * 2 = i * 2 + k * 2 by omega, hL1]
  simpa only [List.toList_toArray] using this
 obtain ⟨W1, hW1⟩ : ∃ W1, W1 = w.drew.setRow g L1.toArray := ⟨_, rfl⟩
 have hg1 : W1.heap[g]? = some (.cells L1.toArray 78 (0, 0)) := by rw [hW1]; exact setRow_heap w.drew g _ _ 78 _ H.hg
 have hh1 : W1.heap[h]? = w.heap[h]? := by rw [hW1, setRow_other w.drew g h _ H.hne]; rfl
 have gr1 : w.grownBy W1 (some g) := by rw [hW1]; exact grown_set1 (grown_drew (grown_refl _ _)) _
 rw [← hW1] at hcp1
 obtain ⟨L2, hL2⟩ : ∃ L2, L2 = L1.take (i * 2) ++ news ++ L1.drop (i * 2 + news.length) := ⟨_, rfl⟩
 have hl2 : L2.length = cap * 2 := by rw [hL2]; simp only [List.length_append, List.length_take, List.length_drop, hl1, hnl]; omega
 have hpre : (xs ++ sp).take (i * 2) = xs.take (i * 2) := List.take_append_of_le_length (by omega)
 have hfin := put_two' (xs ++ sp) (xs.take (i * 2)) news tail L1 L2 (i * 2) (k * 2) hpre hnl (by rw [hsl]; omega) hL1 hL2
 have hcp2 : ∀ dc sc, (Builtin.copy_ #[36, 36] 3 #[.slice (some ⟨g, i * 2, none⟩) kq dc, .slice (some ⟨h, 0, none⟩) k sc]).run Tryz.prog W1 = .ok (goInt (k : Int)) (W1.setRow g L2.toArray) := fun dc sc => by
  have hm : Nat.min k kq = k := Nat.min_eq_left (by omega)
  have := run_copy_wide (P := Tryz.prog) W1 36 36 3 78 g (i * 2) kq dc ⟨h, 0, none⟩ k sc 2 L1.toArray 78 news Tryz.underlying36 info78zz hg1 (by rw [hnl, hm]) (H.src hh1) (by simp only [List.size_toArray, hl1, hnl]; omega) H.h1
  rw [hm] at this
  rw [hL2]
  simpa only [List.toList_toArray] using this
 have e0 : (xs.take (i * 2) ++ news ++ tail).length = tot * 2 := by simp only [List.length_append, List.length_take, htn, hnl]; omega
 exact ⟨W1, _, hov, hcp1, hcp2, InsP_of rfl H.hBg (setRow_heap W1 g _ _ 78 _ hg1) hfin e0 hl2 hc H.hcap (grown_set1 gr1 _)⟩
set_option maxRecDepth 100000 in
set_option maxHeartbeats 8000000 in
theorem Repl_more (B cap g h i j k n q m tot kq kc : Nat) (xs sp news nsp : List Value) (w : World) (e1 : i + k = m) (e3 : j + q = n) (e4 : m + q = tot) (e5 : k + q = kq) (hq : 0 < q) (hj : i < j) (hc : tot ≤ cap) (hmj : j < m) (H : RpC w B n cap g h k xs sp news nsp) :
  Calls Tryz.prog 112 #[.slice (some ⟨g, 0, none⟩) n cap, .int .i64 (i : Int), .int .i64 (j : Int), .slice (some ⟨h, 0, none⟩) k kc] w fun e w' => InsP B w (.slice (some ⟨g, 0, none⟩) n cap) tot (xs.take (i * 2) ++ news ++ xs.drop (j * 2)) e w' := by
 have hnc := H.hnc
 have hn := H.hn
 have hk2 := H.hk
 have HF := hid (fun u nq (hu : w.drewN nq = u) => more_runs B cap g h i j k n q m tot kq kc xs sp news nsp u e1 e3 e4 e5 hq hj hc hmj (H.keep (by rw [← hu]; rfl)))
 clear H
 generalize xs.take (i * 2) ++ news ++ xs.drop (j * 2) = ys at *
 have g1 : ¬ ((i : Int) = (j : Int)) := by omega
 have g2 : ¬ ((j : Int) = (n : Int)) := by omega
 have g3 : (i : Int) ≤ (j : Int) := by omega
 have g4 : (j : Int) ≤ (cap : Int) := by omega
 have g4' : (j : Int) ≤ (n : Int) := by omega
 have g5 : (i : Int) ≤ (cap : Int) := by omega
 have g6 : n - j = q := by omega
 have g7 : IntKind.i64.wrap ((i : Int) + (k : Int)) = (m : Int) := by rw [IntKind.wrap_i64]; omega
 have g8 : IntKind.i64.wrap ((m : Int) + (q : Int)) = (tot : Int) := by rw [IntKind.wrap_i64]; omega
 have g9 : ¬ ((cap : Int) < (tot : Int)) := by omega
 have g10 : (tot : Int) ≤ (cap : Int) := by omega
 have g11 : tot - m = q := by omega
 have g12 : tot - i = kq := by omega
 have g13 : ¬ (cap = i) := by omega
 have g14 : ¬ (cap = m) := by omega
 have g15 : ¬ (cap = j) := by omega
 have g16 : ¬ ((m : Int) ≤ (j : Int)) := by omega
 have g17 : (m : Int) ≤ (tot : Int) := by omega
 have g18 : (i : Int) ≤ (tot : Int) := by omega
 have mixed : Tryz.prog.follows Departure.mixedOrders = true := by kernel_rfl
 clear e1 e3 e4 e5 hj hq hnc hn hk2 hc hmj
 go_enter Tryz.func112, Tryz.ntmps112
 go_wp2_with fail
 go_quiet (fail)
 generalize hU : w.drewN _ = U
 obtain ⟨W1, W2, hov, hcp1, hcp2, hQ⟩ := HF.out U _ hU
 have HQ := hid (InsP.drewN hU hQ)
 clear hQ hU HF
 go_wp2_with (simp only [hov])
 go_region_law_o (refine step_copy_runI rfl _ _ 36 36 rfl _ _ (by simp [Act.eval, Act.put]) (by simp [Act.eval, Act.put]) (hcp1 _ _) ?_)
 go_wp2_with (at_builtin; refine wpList_copy_runI _ rfl _ _ 36 36 rfl _ _ rfl rfl (hcp2 _ _) ?_)
 go_ret
 exact HQ.out
end Go.Proofs.YtddddfankeepkaaGreatDoor
namespace Go.Proofs.YtddddfankeepkaaGreatDoor
open Go.RowKit
set_option maxRecDepth 100000 in
set_option maxHeartbeats 4000000 in
theorem grow_runs (B cap g h i j k n q m tot kq kc : Nat) (xs sp news nsp : List Value) (w : World) (e1 : i + k = m) (e3 : j + q = n) (e4 : m + q = tot) (e5 : k + q = kq) (hq : 0 < q) (hj : i < j) (hc : cap < tot) (hB : B ≤ w.heap.size) (H : RpC w B n cap g h k xs sp news nsp) :
  ∃ G C W1 W2 W3, i < C ∧ m < C ∧ tot ≤ C ∧ (Builtin.append_ #[36, 3] 36 #[.slice (some ⟨g, 0, none⟩) i cap, .int .i64 (kq : Int)]).run Tryz.prog w = .ok (.slice (some ⟨G, 0, none⟩) tot C) W1 ∧ (∀ dc, (Builtin.copy_ #[36, 36] 3 #[.slice (some ⟨G, i * 2, none⟩) kq dc, .slice (some ⟨h, 0, none⟩) k kc]).run Tryz.prog W1 = .ok (goInt (k : Int)) W2) ∧ (∀ dc sc, (Builtin.copy_ #[36, 36] 3 #[.slice (some ⟨G, m * 2, none⟩) q dc, .slice (some ⟨g, j * 2, none⟩) q sc]).run Tryz.prog W2.drew = .ok (goInt (q : Int)) W3) ∧ InsP B w (.slice (some ⟨g, 0, none⟩) n cap) tot (xs.take (i * 2) ++ news ++ xs.drop (j * 2)) (.returned (.slice (some ⟨G, 0, none⟩) tot C)) W3 := by
 obtain ⟨i0, hi0, hz0, hz1, hz2⟩ := info_parts info32
 have hxl := H.hxl
 have hsl := H.hsl
 have hnl := H.hnl
 have hnc := H.hnc
 have hk2 := H.hk
 have hn := H.hn
 have hlg : g < w.heap.size := (Array.getElem?_eq_some_iff.1 H.hg).1
 have hlh : h < w.heap.size := (Array.getElem?_eq_some_iff.1 H.hh).1
 obtain ⟨tail, htl⟩ : ∃ tail, tail = xs.drop (j * 2) := ⟨_, rfl⟩
 have htn : tail.length = q * 2 := by rw [htl, List.length_drop, hxl]; omega
 rw [← htl]
 have hpl : (xs.take (i * 2)).length = i * 2 := by rw [List.length_take, hxl]; omega
 have r1 := run_append_zeros_grow (P := Tryz.prog) w 36 3 36 78 i0 _ .i64 .i64 Tryz.underlying36 Tryz.underlying3 hi0 hz0 g i kq cap (xs.take (i * 2)) (by rw [hpl, hz1]) (fun t u hu => by
  rw [Addr.add_lit, Nat.zero_add]
  have ht := (List.getElem?_eq_some_iff.1 hu).1
  rw [List.getElem?_take_of_lt (by rw [hpl] at ht; exact ht)] at hu
  simp only [World.cell?, H.hg]
  rw [List.getElem?_toArray, List.getElem?_append_left (List.getElem?_eq_some_iff.1 hu).1]
  simpa using hu) (by omega) (by omega) (by omega) (by omega) (by rw [hz2]; omega)
 rw [show i + kq = tot by omega] at r1
 have hCge := grownCap_ge w tot cap 78
 have hCle := grownCap_le_maxLen w tot cap 78 (by unfold maxLen; omega)
 generalize hC : grownCap w tot cap 78 = C at *
 obtain ⟨L0, hL0⟩ : ∃ L0, L0 = xs.take (i * 2) ++ (Builtin.zeroCells (Value.agg #[.int .i64 0, .int .i64 0]).cells kq).toList ++ (Builtin.zeroCells (Value.agg #[.int .i64 0, .int .i64 0]).cells (C - tot)).toList := ⟨_, rfl⟩
 obtain ⟨W1, hW1⟩ : ∃ W1, W1 = w.drew.alloc (.cells L0.toArray 78) := ⟨_, rfl⟩
 obtain ⟨G, hG⟩ : ∃ G, G = w.heap.size := ⟨_, rfl⟩
 have r1' : (Builtin.append_ #[36, 3] 36 #[.slice (some ⟨g, 0, none⟩) i cap, .int .i64 (kq : Int)]).run Tryz.prog w = .ok (.slice (some ⟨G, 0, none⟩) tot C) W1 := by
  rw [r1, hW1, hL0, hG]
  congr 3
  apply Array.ext'
  simp
 clear r1
 have hzl : (Builtin.zeroCells (Value.agg #[.int .i64 0, .int .i64 0]).cells kq).toList.length = kq * 2 := by
  rw [Array.length_toList, size_zeroCells]; rfl
 have hzr : (Builtin.zeroCells (Value.agg #[.int .i64 0, .int .i64 0]).cells (C - tot)).toList.length = (C - tot) * 2 := by
  rw [Array.length_toList, size_zeroCells]; rfl
 have hl0 : L0.length = C * 2 := by
  rw [hL0]
  simp only [List.length_append, hpl, hzl, hzr]
  omega
 have hpre : L0.take (i * 2) = xs.take (i * 2) := by rw [hL0, List.append_assoc]; exact List.take_left' hpl
 have hg1 : W1.heap[G]? = some (.cells L0.toArray 78 (0, 0)) := by rw [hW1, hG]; exact heap_new _ _
 have hb1 : ∀ x, x < w.heap.size → W1.heap[x]? = w.heap[x]? := fun x hx => by rw [hW1]; exact Below.heap_alloc w.drew _ _ hx
 have gr1 : w.grownBy W1 (some g) := by
  rw [hW1]
  exact ⟨rfl, rfl, rfl, by simp [World.size_alloc], fun x hx _ => Below.heap_alloc w.drew _ _ hx⟩
 obtain ⟨L1, hL1⟩ : ∃ L1, L1 = L0.take (i * 2) ++ news ++ L0.drop (i * 2 + news.length) := ⟨_, rfl⟩
 have hl1 : L1.length = C * 2 := by rw [hL1]; simp only [List.length_append, List.length_take, List.length_drop, hl0, hnl]; omega
 have hcp1 : ∀ dc, (Builtin.copy_ #[36, 36] 3 #[.slice (some ⟨G, i * 2, none⟩) kq dc, .slice (some ⟨h, 0, none⟩) k kc]).run Tryz.prog W1 = .ok (goInt (k : Int)) (W1.setRow G L1.toArray) := fun dc => by
  have hm : Nat.min k kq = k := Nat.min_eq_left (by omega)
  have := run_copy_wide (P := Tryz.prog) W1 36 36 3 78 G (i * 2) kq dc ⟨h, 0, none⟩ k kc 2 L0.toArray 78 news Tryz.underlying36 info78zz hg1 (by rw [hnl, hm]) (H.src (hb1 h hlh)) (by simp only [List.size_toArray, hl0, hnl]; omega) H.h1
  rw [hm] at this
  rw [hL1]
  simpa only [List.toList_toArray] using this
 obtain ⟨W2, hW2⟩ : ∃ W2, W2 = W1.setRow G L1.toArray := ⟨_, rfl⟩
 have hg2 : W2.heap[G]? = some (.cells L1.toArray 78 (0, 0)) := by rw [hW2]; exact setRow_heap W1 G _ _ 78 _ hg1
 have hb2 : ∀ x, x < w.heap.size → W2.heap[x]? = w.heap[x]? := fun x hx => by rw [hW2, setRow_other W1 G x _ (by omega)]; exact hb1 x hx
 rw [← hW2] at hcp1
 obtain ⟨L2, hL2⟩ : ∃ L2, L2 = L1.take (i * 2 + k * 2) ++ tail ++ L1.drop (i * 2 + k * 2 + tail.length) := ⟨_, rfl⟩
 have hl2 : L2.length = C * 2 := by rw [hL2]; simp only [List.length_append, List.length_take, List.length_drop, hl1, htn]; omega
 have hfin := put_two L0 (xs.take (i * 2)) news tail L1 L2 (i * 2) (k * 2) hpre (by rw [hl0]; omega) hnl hL1 hL2
 have hcp2 : ∀ dc sc, (Builtin.copy_ #[36, 36] 3 #[.slice (some ⟨G, m * 2, none⟩) q dc, .slice (some ⟨g, j * 2, none⟩) q sc]).run Tryz.prog W2.drew = .ok (goInt (q : Int)) (W2.drew.setRow G L2.toArray) := fun dc sc => by
  have hm : Nat.min q q = q := Nat.min_self _
  have := run_copy_wide (P := Tryz.prog) W2.drew 36 36 3 78 G (m * 2) q dc ⟨g, j * 2, none⟩ q sc 2 L1.toArray 78 tail Tryz.underlying36 info78zz hg2 (by rw [htn, hm]) (row_src (w1 := W2.drew) (show W2.heap[g]? = some (.cells (xs ++ sp).toArray 78 (0, 0)) by rw [hb2 g hlg]; exact H.hg) (fun t u hu => by
   rw [htl, List.getElem?_drop] at hu
   rw [List.getElem?_append_left (List.getElem?_eq_some_iff.1 hu).1]
   exact hu)) (by simp only [List.size_toArray, hl1, htn]; omega) (fun u hu => H.h1x u (List.mem_of_mem_drop (by rw [← htl]; exact hu)))
  rw [hm, show m * 2 = i * 2 + k * 2 by omega] at this
  rw [show m * 2 = i * 2 + k * 2 by omega, hL2]
  simpa only [List.toList_toArray] using this
 have e0 : (xs.take (i * 2) ++ news ++ tail).length = tot * 2 := by simp only [List.length_append, hpl, htn, hnl]; omega
 have hs2 : W2.heap.size = w.heap.size + 1 := by rw [hW2, hW1]; simp [World.setRow]
 refine ⟨G, C, W1, W2, _, by omega, by omega, hCge, r1', hcp1, hcp2, _, rfl, ⟨e0, .inr ⟨G, C, L2.toArray, rfl, by omega, setRow_heap W2.drew G _ _ 78 _ hg2, hCge, hCle, by rw [List.size_toArray, hl2], by show L2.take _ = _; rw [hfin]; exact List.take_left' e0⟩⟩, ?_, fun b hb => .inr (by have q : some G = some b := hb; simp only [Option.some.injEq] at q; omega)⟩
 refine ⟨by rw [hW2, hW1]; rfl, by rw [hW2, hW1]; rfl, by rw [hW2, hW1]; rfl, by show w.heap.size ≤ (W2.drew.setRow G L2.toArray).heap.size; simp [World.setRow]; show w.heap.size ≤ W2.heap.size; omega, fun x hx _ => ?_⟩
 rw [setRow_other W2.drew G x _ (by omega)]
 exact hb2 x hx
set_option maxRecDepth 100000 in
set_option maxHeartbeats 8000000 in
theorem Repl_grow (B cap g h i j k n q m tot kq kc : Nat) (xs sp news nsp : List Value) (w : World) (e1 : i + k = m) (e3 : j + q = n) (e4 : m + q = tot) (e5 : k + q = kq) (hq : 0 < q) (hj : i < j) (hc : cap < tot) (hB : B ≤ w.heap.size) (H : RpC w B n cap g h k xs sp news nsp) :
  Calls Tryz.prog 112 #[.slice (some ⟨g, 0, none⟩) n cap, .int .i64 (i : Int), .int .i64 (j : Int), .slice (some ⟨h, 0, none⟩) k kc] w fun e w' => InsP B w (.slice (some ⟨g, 0, none⟩) n cap) tot (xs.take (i * 2) ++ news ++ xs.drop (j * 2)) e w' := by
 have hnc := H.hnc
 have hn := H.hn
 have hk2 := H.hk
 have HF := hid (fun u nq (hu : w.drewN nq = u) => grow_runs B cap g h i j k n q m tot kq kc xs sp news nsp u e1 e3 e4 e5 hq hj hc (by rw [← hu]; exact hB) (H.keep (by rw [← hu]; rfl)))
 clear H
 generalize xs.take (i * 2) ++ news ++ xs.drop (j * 2) = ys at *
 have g1 : ¬ ((i : Int) = (j : Int)) := by omega
 have g2 : ¬ ((j : Int) = (n : Int)) := by omega
 have g3 : (i : Int) ≤ (j : Int) := by omega
 have g4 : (j : Int) ≤ (cap : Int) := by omega
 have g4' : (j : Int) ≤ (n : Int) := by omega
 have g5 : (i : Int) ≤ (cap : Int) := by omega
 have g6 : n - j = q := by omega
 have g7 : IntKind.i64.wrap ((i : Int) + (k : Int)) = (m : Int) := by rw [IntKind.wrap_i64]; omega
 have g8 : IntKind.i64.wrap ((m : Int) + (q : Int)) = (tot : Int) := by rw [IntKind.wrap_i64]; omega
 have g9 : (cap : Int) < (tot : Int) := by omega
 have g11 : tot - m = q := by omega
 have g12 : tot - i = kq := by omega
 have g13 : IntKind.i64.wrap ((tot : Int) - (i : Int)) = (kq : Int) := by rw [IntKind.wrap_i64]; omega
 have g15 : ¬ (cap = j) := by omega
 have g17 : (m : Int) ≤ (tot : Int) := by omega
 have g18 : (i : Int) ≤ (tot : Int) := by omega
 have mixed : Tryz.prog.follows Departure.mixedOrders = true := by kernel_rfl
 clear e1 e3 e4 e5 hj hq hnc hn hk2 hc hB
 go_enter Tryz.func112, Tryz.ntmps112
 go_wp2_with fail
 go_quiet (fail)
 generalize hU : w.drewN _ = U
 obtain ⟨G, C, W1, W2, W3, c1, c2, c3, r1, hcp1, hcp2, hQ⟩ := HF.out U _ hU
 have HQ := hid (InsP.drewN hU hQ)
 have c1' : ¬ (C = i) := by omega
 have c2' : ¬ (C = m) := by omega
 clear hQ hU HF c1 c2 c3
 go_wp2_with (first | (at_builtin; refine Lib.wpList_append_run _ rfl _ _ _ _ rfl _ _ rfl rfl _ _ r1 ?_) | (at_builtin; refine wpList_copy_runI _ rfl _ _ 36 36 rfl _ _ rfl rfl (hcp1 _) ?_))
 go_region_law_o (refine step_copy_runI rfl _ _ 36 36 rfl _ _ (by simp [Act.eval, Act.put]) (by simp [Act.eval, Act.put]) (hcp2 _ _) ?_)
 go_wp2
 go_ret
 exact HQ.out
theorem Repl_any (B g h i j k n c kc : Nat) (xs news nsp : List Value) (w : World) (hown : w.ownsRow B 78 2 (.slice (some ⟨g, 0, none⟩) n c) n xs) (hh : w.heap[h]? = some (.cells (news ++ nsp).toArray 78 (0, 0))) (hne : h ≠ g) (hnl : news.length = k * 2) (hk : k ≤ 2) (h1 : ∀ u ∈ news, u.oneCell' = true) (h1x : ∀ u ∈ xs, u.oneCell' = true) (hij : i < j) (hjn : j ≤ n) (hn : n ≤ 16777216) (hB : B ≤ w.heap.size) :
  Calls Tryz.prog 112 #[.slice (some ⟨g, 0, none⟩) n c, .int .i64 (i : Int), .int .i64 (j : Int), .slice (some ⟨h, 0, none⟩) k kc] w fun e w' => InsP B w (.slice (some ⟨g, 0, none⟩) n c) (i + k + (n - j)) (xs.take (i * 2) ++ news ++ xs.drop (j * 2)) e w' := by
 rcases hown.2 with ⟨e, _⟩ | ⟨g', cap, cur, e, hBg, hg, hnc, hcm, hcs, htk⟩
 ·cases e
 ·simp only [Value.slice.injEq, Option.some.injEq, Addr.mk.injEq, true_and, and_true] at e
  obtain ⟨rfl, rfl⟩ := e
  have hxl := hown.1
  have hcur : cur = (xs ++ cur.toList.drop (n * 2)).toArray := by
   apply Array.ext'
   rw [← htk]
   simp
  generalize hsp : cur.toList.drop (n * 2) = sp at *
  subst hcur
  have H : RpC w B n c g h k xs sp news nsp := ⟨hg, hBg, hxl, by simpa using hcs, hcm, hnc, hh, hne, hnl, h1, h1x, hn, hk⟩
  by_cases hjn' : j = n
  ·subst hjn'
   rw [Nat.sub_self, Nat.add_zero, List.drop_of_length_le (by omega), List.append_nil]
   by_cases hm : i + k < j
   ·exact Repl_endLess B c g h i k j (j - (i + k)) (i + k) kc xs sp news nsp w rfl (by omega) (by omega) H
   ·exact Repl_endMore B c g h i k j (i + k) kc xs sp news nsp w rfl (by omega) hij hB H
  ·by_cases hc : i + k + (n - j) ≤ c
   ·by_cases hm : i + k ≤ j
    ·exact Repl_fits B c g h i j k n (j - (i + k)) (n - j) (i + k) _ (k + (n - j)) kc xs sp news nsp w rfl (by omega) (by omega) rfl rfl hij (by omega) H
    ·exact Repl_more B c g h i j k n (n - j) (i + k) _ (k + (n - j)) kc xs sp news nsp w rfl (by omega) rfl rfl (by omega) hij hc (by omega) H
   ·exact Repl_grow B c g h i j k n (n - j) (i + k) _ (k + (n - j)) kc xs sp news nsp w rfl (by omega) rfl rfl (by omega) hij (by omega) hB H
end Go.Proofs.YtddddfankeepkaaGreatDoor
namespace Go.Proofs.YtddddfankeepkaaGreatDoor
open Go.RowKit
abbrev R0 : Rg := ⟨0, 0⟩
def spl (rs : List Rg) (i j : Nat) (ys : List Rg) : List Rg := rs.take i ++ ys ++ rs.drop j
theorem flatR_spl (rs ys : List Rg) (i j : Nat) : flatR (spl rs i j ys) = (flatR rs).take (i * 2) ++ flatR ys ++ (flatR rs).drop (j * 2) := by
 unfold spl
 rw [flatR_app, flatR_app, flatR_take, flatR_drop]
theorem spl_len (rs ys : List Rg) (i j : Nat) (h : i ≤ j) (hj : j ≤ rs.length) : (spl rs i j ys).length = i + ys.length + (rs.length - j) := by
 unfold spl
 simp only [List.length_append, List.length_take, List.length_drop]
 omega
def wid (r : Rg) : Rg := ⟨wrap64 (r.f - 1), wrap64 (r.t + 1)⟩
def joinP (rs : List Rg) (r : Rg) : List Rg :=
 if emp r = true then rs else if metJ rs (wid r) = 0 then spl rs (metI rs (wid r)) (metI rs (wid r)) [r]
 else spl rs (metI rs (wid r)) (metI rs (wid r) + metJ rs (wid r)) [⟨min r.f (rs.getD (metI rs (wid r)) R0).f, max r.t (rs.getD (metI rs (wid r) + metJ rs (wid r) - 1) R0).t⟩]
def cutP (rs : List Rg) (r : Rg) : List Rg :=
 if emp r = true then rs else if metJ rs r = 0 then rs
 else spl rs (metI rs r) (metI rs r + metJ rs r) ([⟨(rs.getD (metI rs r) R0).f, r.f⟩, ⟨r.t, (rs.getD (metI rs r + metJ rs r - 1) R0).t⟩].filter nem)
def JnQ (B : Nat) (w : World) (v : Value) (rs : List Rg) (e : Ending) (w' : World) : Prop := ∃ v', e = .returned v' ∧ OwR B w' v' rs ∧ w.grownBy w' v.ownBlock ∧ OwnB w v v'
theorem grown_below {w u w' : World} {r : Option Nat} (hb : Below w.heap.size w u) (h : u.grownBy w' r) : w.grownBy w' r :=
 ⟨h.os.trans hb.os, h.tape.trans hb.tape, h.output.trans hb.output, Nat.le_trans hb.size h.size, fun k hk hne => (h.block k (Nat.lt_of_lt_of_le hk hb.size) hne).trans (hb.block k hk)⟩
theorem JnQ.of {B i j : Nat} {w u : World} {v : Value} {rs ys : List Rg} {e : Ending} {w' : World} (hij : i ≤ j) (hj : j ≤ rs.length) (hb : Below w.heap.size w u) (h : InsP B u v (i + ys.length + (rs.length - j)) ((flatR rs).take (i * 2) ++ flatR ys ++ (flatR rs).drop (j * 2)) e w') : JnQ B w v (spl rs i j ys) e w' := by
 obtain ⟨v', e1, e2, e3, e4⟩ := h
 refine ⟨v', e1, ?_, grown_below hb e3, fun b hb' => (e4 b hb').imp id (fun q => Nat.le_trans hb.size q)⟩
 unfold OwR
 rw [flatR_spl, spl_len rs ys i j hij hj]
 exact e2
theorem JnQ.same {B : Nat} {w u : World} {v : Value} {rs : List Rg} (hv : OwR B w v rs) (hb : Below w.heap.size w u) : JnQ B w v rs (.returned v) u :=
 ⟨v, rfl, own_next hv hb, ⟨hb.os, hb.tape, hb.output, hb.size, fun k hk _ => hb.block k hk⟩, fun _ h => .inl h⟩
set_option maxRecDepth 100000 in
set_option maxHeartbeats 4000000 in
theorem Search0_126 (P Q : Nat) (w : World) : Calls Tryz.prog 125 #[.int .i64 0, .func (.func 126) #[] #[.pointer (some ⟨P, 0, none⟩), .pointer (some ⟨Q, 0, none⟩)]] w fun e w' => LkQ w 0 e w' := by
 have := Search126_any 0 P Q (fun _ => true) w (by omega) (fun h wr hh => by omega)
 simpa [srch] using this
set_option maxRecDepth 100000 in
set_option maxHeartbeats 4000000 in
theorem Search0_127 (P Q : Nat) (w : World) : Calls Tryz.prog 125 #[.int .i64 0, .func (.func 127) #[] #[.pointer (some ⟨P, 0, none⟩), .pointer (some ⟨Q, 0, none⟩)]] w fun e w' => LkQ w 0 e w' := by
 have := Search127_any 0 P Q (fun _ => true) w (by omega) (fun h wr hh => by omega)
 simpa [srch] using this
set_option maxRecDepth 100000 in
set_option maxHeartbeats 4000000 in
theorem met_nil (r : Rg) (w : World) :
  Calls Tryz.prog 110 #[.slice none 0 0, .agg #[.int .i64 r.f, .int .i64 r.t]] w fun e w' => e = .returned (.tuple #[.int .i64 0, .int .i64 0]) ∧ Below w.heap.size w w' := by
 obtain ⟨U, hU⟩ : ∃ U, U = (w.alloc (.cells #[.slice none 0 0] 36)).alloc (.cells #[.int .i64 r.f, .int .i64 r.t] 78) := ⟨_, rfl⟩
 have bU : Below w.heap.size w U := by rw [hU]; exact ((Below.refl _ _).alloc (Nat.le_refl _) _).alloc (by simp) _
 have sP : SlB U w.heap.size (.slice none 0 0) := by
  unfold SlB
  rw [hU, Below.heap_alloc _ _ _ (by simp)]
  exact heap_new _ _
 have HS1 := hid (fun P Q u => Search0_126 P Q u)
 have HS2 := hid (fun P Q u => Search0_127 P Q u)
 have HU := hid hU
 have HB := hid bU
 have HP := hid sP
 clear hU bU sP
 go_enter Tryz.func110, Tryz.ntmps110
 go_wp2_with fail
 rw [← HU.out]
 refine (HS1.out _ _ U).mono ?_
 rintro e w2 ⟨rfl, hb2⟩
 have c0 := (HP.out.keep (hb2.block _ HP.out.lt)).cs
 have HB2 := hid (HB.out.trans (hb2.mono HB.out.size))
 obtain ⟨W3, hW3⟩ : ∃ W3, W3 = w2.alloc (.cells #[.slice none 0 0] 36) := ⟨_, rfl⟩
 have HB3 : Hid (Below w.heap.size w W3) := by rw [hW3]; exact HB2.out.alloc HB2.out.size _
 have HW3 := hid hW3
 clear hb2 hW3 HB2 HB HP HU
 go_wp2_with fail
 rw [← HW3.out]
 refine (HS2.out _ _ W3).mono ?_
 rintro e w4 ⟨rfl, hb4⟩
 have HB4 := hid (HB3.out.trans (hb4.mono HB3.out.size))
 clear hb4
 go_wp2
 go_ret2
 exact ⟨rfl, HB4.out⟩
theorem met_gen (B : Nat) (v : Value) (rs : List Rg) (r : Rg) (w : World) (hl : rs.length ≤ 16777216) (h : OwR B w v rs) :
  Calls Tryz.prog 110 #[v, .agg #[.int .i64 r.f, .int .i64 r.t]] w fun e w' => e = .returned (.tuple #[.int .i64 (metI rs r : Int), .int .i64 ((metI rs r : Int) + (metJ rs r : Int))]) ∧ Below w.heap.size w w' := by
 obtain ⟨a, c, rfl, hR, hn⟩ := h.rd
 rcases h.2 with ⟨e, q⟩ | ⟨g, cap, cur, e, hB, hg, hc, _⟩
 ·obtain rfl : rs = [] := List.eq_nil_of_length_eq_zero q
  simp only [Value.slice.injEq] at e
  obtain ⟨rfl, _, rfl⟩ := e
  exact met_nil r w
 ·simp only [Value.slice.injEq] at e
  obtain ⟨rfl, _, rfl⟩ := e
  exact met_any g 0 _ rs r w hl hc hR
set_option maxRecDepth 100000 in
set_option maxHeartbeats 4000000 in
theorem Repl_ins (B n h i : Nat) (v : Value) (xs news : List Value) (w : World) (hown : w.ownsRow B 78 2 v n xs) (hh : w.heap[h]? = some (.cells news.toArray 78 (0, 0))) (hne : v.ownBlock ≠ some h) (hnl : news.length = 2) (h1 : ∀ u ∈ news, u.oneCell' = true) (h1x : ∀ u ∈ xs, u.oneCell' = true) (hi : i ≤ n) (hn : n ≤ 16777216) (hB : B ≤ w.heap.size) :
  Calls Tryz.prog 112 #[v, .int .i64 (i : Int), .int .i64 (i : Int), .slice (some ⟨h, 0, none⟩) 1 1] w fun e w' => InsP B w v (n + 1) (xs.take (i * 2) ++ news ++ xs.drop (i * 2)) e w' := by
 have HC := hid (InsR_any B n h i v xs news w hown hh hne hnl h1 h1x hi hn hB)
 generalize xs.take (i * 2) ++ news ++ xs.drop (i * 2) = ys at *
 rcases own_form hown with ⟨rfl, rfl⟩ | ⟨g, c, rfl, hg⟩
 ·obtain rfl : i = 0 := by omega
  clear hown hh hne hnl h1 h1x hi hn hB
  go_enter Tryz.func112, Tryz.ntmps112
  go_wp2_with fail
  refine HC.out.mono ?_
  rintro e w2 ⟨v', rfl, h1, h2⟩
  have HQ : Hid (InsP B w (.slice none 0 0) (0 + 1) ys (.returned v') w2) := ⟨v', rfl, h1, h2⟩
  clear h1 h2 HC
  go_wp2
  go_ret
  exact HQ.out
 ·have hnc : n ≤ c := by
   rcases hown.2 with ⟨e, _⟩ | ⟨g', cap, cur, e, _, _, hc, _⟩
   ·cases e
   ·simp only [Value.slice.injEq] at e
    omega
  have g1 : (i : Int) ≤ (c : Int) := by omega
  clear hown hh hne hnl h1 h1x hn hB hg
  rcases Decidable.em (c = i) with rfl | hci
  all_goals
   go_enter Tryz.func112, Tryz.ntmps112
   go_wp2_with fail
   refine Calls.mono HC.out ?_
   rintro e w2 ⟨v', rfl, q1, q2⟩
   have HQ : Hid (InsP B w (.slice (some ⟨g, 0, none⟩) n c) (n + 1) ys (.returned v') w2) := ⟨v', rfl, q1, q2⟩
   clear q1 q2 HC
   go_wp2
   go_ret
   exact HQ.out
end Go.Proofs.YtddddfankeepkaaGreatDoor
