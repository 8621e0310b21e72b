import Derived.Test.YtddddfankeepkaaGreatDoorF07
import Derived.Lib.SliceRun
import Derived.Deep.Slices
namespace Go.Proofs.YtddddfankeepkaaGreatDoor
open Go.RowKit
set_option maxRecDepth 100000 in
set_option maxHeartbeats 1000000 in
theorem CloneR_any (a : Option Addr) (c : Nat) (rs : List Rg) (w : World) (h : RdR w.heap.size w a rs) (ha : a = none → c = 0) (hn : rs.length ≤ 16777216) :
  Calls Tryz.prog 50 #[.slice a rs.length c] w fun e w' => ∃ v, e = .returned v ∧ OwR w.heap.size w' v rs ∧ Below w.heap.size w w' := by
 cases a with
 | none =>
  obtain rfl : rs = [] := by
   rcases h with h | ⟨_, _, h, _⟩
   ·exact h
   ·cases h
  obtain rfl := ha rfl
  have hr : (binOp .eql 36 (.slice none 0 0) (.slice none 0 0)).run Tryz.prog w = .ok (.bool true) w := Go.Lib.run_eql_slice_nil w 36 78 none 0 0 0 0 Tryz.underlying36
  have HO : Hid (OwR w.heap.size w (.slice none 0 0) []) := ⟨rfl, .inl ⟨rfl, rfl⟩⟩
  have HB := hid (Below.refl w.heap.size w)
  clear h ha
  show Calls Tryz.prog 50 #[.slice none 0 0] w _
  go_enter Tryz.func50, Tryz.ntmps50
  go_wp2
  go_ret
  exact ⟨_, rfl, HO.out, HB.out⟩
 | some ad =>
  have hr0 : (binOp .eql 36 (.slice (some ad) rs.length c) (.slice none 0 0)).run Tryz.prog w = .ok (.bool false) w := Go.Lib.run_eql_slice_nil w 36 78 (some ad) _ c 0 0 Tryz.underlying36
  have ow0 : OwR w.heap.size (w.alloc (.cells #[] 78)) (.slice (some ⟨w.heap.size, 0, none⟩) 0 0) [] := ⟨rfl, .inr ⟨w.heap.size, 0, #[], rfl, Nat.le_refl _, heap_new _ _, Nat.le_refl _, Nat.zero_le _, rfl, rfl⟩⟩
  have b0 : Below w.heap.size w (w.alloc (.cells #[] 78)) := below1 _ _
  obtain ⟨v', w', hr, ho, hg⟩ := app_rg 36 ow0 (h.below b0) ha hn (by simp) (by simp)
  have HO := hid ho
  have HB := hid (b0.trans hg)
  clear ow0 b0 h ha ho hg
  generalize rs.length = n at *
  go_enter Tryz.func50, Tryz.ntmps50
  go_wp2_with (at_builtin; refine Lib.wpList_append_run _ rfl _ _ _ _ rfl _ _ rfl rfl _ _ hr ?_)
  go_ret
  exact ⟨v', rfl, by simpa using HO.out, HB.out⟩
theorem RdV.flat {B : Nat} {w : World} {b off : Nat} {vs : List PV} (h : RdV B w (some ⟨b, off, none⟩) vs) : ∃ us : List Value, us.length = vs.length ∧ (∀ k u, (flatV vs us)[k]? = some u → w.cell? ((⟨b, off, none⟩ : Addr).add k) = some u) ∧ (∀ u ∈ flatV vs us, u.oneCell' = true) ∧ ∀ (j : Nat) (hj : j < vs.length) (hu : j < us.length), ∃ a' c', us[j] = .slice a' vs[j].mp.length c' ∧ RdR B w a' vs[j].mp ∧ (a' = none → c' = 0) := by
 rcases h with rfl | ⟨b', off', e, hlt, hc⟩
 ·exact ⟨[], rfl, fun k u hu => by simp [flatV] at hu, fun u hu => by simp [flatV] at hu, fun j hj => by simp at hj⟩
 ·simp at e
  obtain ⟨rfl, rfl⟩ := e
  have each : ∀ j, j < vs.length → ∃ u : Value, ∀ hj : j < vs.length, ∃ a' c', u = .slice a' vs[j].mp.length c' ∧ VolC w b (off + j * 7) vs[j] a' c' ∧ RdR B w a' vs[j].mp ∧ (a' = none → c' = 0) := fun j hj => by
   obtain ⟨a', c', h1, h2, h3⟩ := hc j hj
   exact ⟨.slice a' vs[j].mp.length c', fun _ => ⟨a', c', rfl, h1, h2, h3⟩⟩
  have : Inhabited Value := ⟨.bool false⟩
  obtain ⟨q, hq⟩ := Go.Deep.choose_lt each
  refine ⟨(List.range vs.length).map q, by simp, fun k u hu => ?_, fun u hu => ?_, fun j hj hu => ?_⟩
  ·have hk : k < (flatV vs ((List.range vs.length).map q)).length := (List.getElem?_eq_some_iff.1 hu).1
   rw [flatV_len _ _ (by simp)] at hk
   have hj : k / 7 < vs.length := by omega
   have h1 := flatV_at vs ((List.range vs.length).map q) (by simp) (k / 7) hj (k % 7) (by omega)
   rw [show k / 7 * 7 + k % 7 = k by omega, hu] at h1
   simp only [List.getElem_map, List.getElem_range] at h1
   obtain ⟨a', c', e1, ⟨d0, d1, d2, d3, d4, d5, d6⟩, _, _⟩ := hq (k / 7) hj hj
   rw [e1] at h1
   rw [Addr.add_lit, show off + k = off + k / 7 * 7 + k % 7 by omega]
   rcases (show k % 7 = 0 ∨ k % 7 = 1 ∨ k % 7 = 2 ∨ k % 7 = 3 ∨ k % 7 = 4 ∨ k % 7 = 5 ∨ k % 7 = 6 by omega) with h | h | h | h | h | h | h <;> rw [h] at h1 ⊢ <;> simp [cells7] at h1 <;> subst h1 <;> assumption
  ·obtain ⟨k, hk⟩ := List.getElem?_of_mem hu
   have hk' : k < (flatV vs ((List.range vs.length).map q)).length := (List.getElem?_eq_some_iff.1 hk).1
   rw [flatV_len _ _ (by simp)] at hk'
   have hj : k / 7 < vs.length := by omega
   have h1 := flatV_at vs ((List.range vs.length).map q) (by simp) (k / 7) hj (k % 7) (by omega)
   rw [show k / 7 * 7 + k % 7 = k by omega, hk] at h1
   simp only [List.getElem_map, List.getElem_range] at h1
   obtain ⟨a', c', e1, _⟩ := hq (k / 7) hj hj
   rw [e1] at h1
   rcases (show k % 7 = 0 ∨ k % 7 = 1 ∨ k % 7 = 2 ∨ k % 7 = 3 ∨ k % 7 = 4 ∨ k % 7 = 5 ∨ k % 7 = 6 by omega) with h | h | h | h | h | h | h <;> rw [h] at h1 <;> simp [cells7] at h1 <;> subst h1 <;> rfl
  ·simp only [List.getElem_map, List.getElem_range]
   obtain ⟨a', c', e1, _, h2, h3⟩ := hq j hj hj
   exact ⟨a', c', e1, h2, h3⟩
end Go.Proofs.YtddddfankeepkaaGreatDoor
namespace Go.Proofs.YtddddfankeepkaaGreatDoor
open Go.RowKit
set_option maxRecDepth 100000 in
set_option maxHeartbeats 1000000 in
theorem CloneV_any (b off c : Nat) (vs : List PV) (us : List Value) (w : World) (hul : us.length = vs.length) (hcell : ∀ k u, (flatV vs us)[k]? = some u → w.cell? ((⟨b, off, none⟩ : Addr).add k) = some u) (h1 : ∀ u ∈ flatV vs us, u.oneCell' = true) (hb : b < w.heap.size ∨ vs = []) (hn : vs.length ≤ 16777216) :
  Calls Tryz.prog 49 #[.slice (some ⟨b, off, none⟩) vs.length c] w fun e w' => ∃ v, e = .returned v ∧ w'.ownsRow w.heap.size 38 7 v vs.length (flatV vs us) ∧ Below w.heap.size w w' := by
 have hr0 : (binOp .eql 22 (.slice (some ⟨b, off, none⟩) vs.length c) (.slice none 0 0)).run Tryz.prog w = .ok (.bool false) w := Go.Lib.run_eql_slice_nil w 22 38 (some ⟨b, off, none⟩) _ c 0 0 Tryz.underlying22
 have ow0 : (w.alloc (.cells #[] 38)).ownsRow w.heap.size 38 7 (.slice (some ⟨w.heap.size, 0, none⟩) 0 0) 0 [] := ⟨rfl, .inr ⟨w.heap.size, 0, #[], rfl, Nat.le_refl _, heap_new _ _, Nat.le_refl _, Nat.zero_le _, rfl, rfl⟩⟩
 have b0 : Below w.heap.size w (w.alloc (.cells #[] 38)) := below1 _ _
 obtain ⟨i0, hi, hz0, hz1, hz2⟩ := info_parts info30
 obtain ⟨v', w', hr, h2, h3, _, _⟩ := run_append_own_at (P := Tryz.prog) (w.alloc (.cells #[] 38)) w.heap.size 22 22 38 i0 _ 7 80 Tryz.underlying22 hi hz0 hz1 hz2 rfl (by decide) _ 0 [] ow0 ⟨b, off, none⟩ vs.length c (flatV vs us) (flatV_len _ _ hul) (fun j u hu => by
  have hlt : b < w.heap.size := by
   rcases hb with h | h
   ·exact h
   ·subst h
    simp [flatV] at hu
  have := hcell j u hu
  rw [Addr.add_lit] at this ⊢
  exact (b0.cell (p := ⟨b, off + j, none⟩) hlt).trans this) h1 (by unfold maxLen; omega) (by omega) (by simp)
 have HO := hid h2
 have HB : Hid (Below w.heap.size w w') := b0.trans ⟨h3.os, h3.tape, h3.output, h3.size, fun k hk => h3.block k (by simp; omega) (fun e => by simp [Value.ownBlock] at e; omega)⟩
 clear ow0 b0 h1 hcell h2 h3 hi hz0 hz1 hz2 hb
 generalize hN : vs.length = n at *
 go_enter Tryz.func49, Tryz.ntmps49
 go_wp2_with (at_builtin; refine Lib.wpList_append_run _ rfl _ _ _ _ rfl _ _ rfl rfl _ _ hr ?_)
 go_ret
 exact ⟨v', rfl, by simpa using HO.out, HB.out⟩
end Go.Proofs.YtddddfankeepkaaGreatDoor
namespace Go.Proofs.YtddddfankeepkaaGreatDoor
open Go.RowKit
def srch (p : Nat → Bool) : Nat → Nat → Nat → Nat
 | 0, i, _ => i
 | d + 1, i, j => if i < j then (if p ((i + j) / 2) then srch p d i ((i + j) / 2) else srch p d ((i + j) / 2 + 1) j) else i
theorem srch_le (p : Nat → Bool) : ∀ (d i j : Nat), i ≤ j → i ≤ srch p d i j ∧ srch p d i j ≤ j
 | 0, i, j, h => ⟨Nat.le_refl _, h⟩
 | d + 1, i, j, h => by
  unfold srch
  by_cases h1 : i < j
  ·rw [if_pos h1]
   by_cases h2 : p ((i + j) / 2)
   ·rw [if_pos h2]
    have := srch_le p d i ((i + j) / 2) (by omega)
    omega
   ·rw [if_neg h2]
    have := srch_le p d ((i + j) / 2 + 1) j (by omega)
    omega
  ·rw [if_neg h1]
   omega
set_option maxRecDepth 100000 in
set_option maxHeartbeats 4000000 in
theorem Search126_any (n P Q : Nat) (p : Nat → Bool) (w : World) (hn : n ≤ 16777216)
  (hf : ∀ (h : Nat) (wr : World), h < n → Below w.heap.size w wr → Calls Tryz.prog 126 #[.int .i64 (h : Int), .pointer (some ⟨P, 0, none⟩), .pointer (some ⟨Q, 0, none⟩)] wr fun e w' => e = .returned (.bool (p h)) ∧ Below wr.heap.size wr w') :
  Calls Tryz.prog 125 #[.int .i64 (n : Int), .func (.func 126) #[] #[.pointer (some ⟨P, 0, none⟩), .pointer (some ⟨Q, 0, none⟩)]] w fun e w' => LkQ w ((srch p n 0 n : Nat) : Int) e w' := by
 have HF := hid hf
 clear hf
 go_enter Tryz.func125, Tryz.ntmps125
 go_wp2_with fail
 go_loopw [5, 6] (fun iv jv wr => ∃ i j d : Nat, iv = .int .i64 (i : Int) ∧ jv = .int .i64 (j : Int) ∧ i ≤ j ∧ j ≤ n ∧ j - i ≤ d ∧ srch p d i j = srch p n 0 n ∧ Below w.heap.size w wr) (fun iv jv _ => (intOf jv).toNat - (intOf iv).toNat)
 case atStart => exact ⟨0, n, n, rfl, rfl, Nat.zero_le _, Nat.le_refl _, by omega, rfl, Below.refl _ _⟩
 case round =>
  obtain ⟨i, j, d, rfl, rfl, hij, hjn, hd, hs, hb⟩ := hrel
  by_cases hlt : i < j
  ·obtain ⟨d', rfl⟩ : ∃ d', d = d' + 1 := ⟨d - 1, by omega⟩
   rw [srch, if_pos hlt] at hs
   have hl1 : (i : Int) < (j : Int) := by omega
   have HC := hid (HF.out ((i + j) / 2) wr (by omega) hb)
   have hce : (((i + j) / 2 : Nat) : Int) = ((i : Int) + (j : Int)) / 2 := by omega
   rw [hce] at HC
   have HCE := hid hce
   have HB := hid hb
   have HS := hid hs
   clear hs hb HF hce
   go_wp2_with fail
   refine HC.out.mono ?_
   generalize hp : p ((i + j) / 2) = t at *
   have HP := hid hp
   clear hp
   rintro e w2 ⟨rfl, hb2⟩
   have HB2 := hid (HB.out.trans (hb2.mono HB.out.size))
   clear hb2 HC HB
   cases t
   ·have HS2 : Hid (srch p d' ((i + j) / 2 + 1) j = srch p n 0 n) := hid (by have := HS.out; have hp := HP.out; simpa [hp] using this)
    clear HS HP
    go_wp2
    go_roundw
    case rel => exact ⟨(i + j) / 2 + 1, j, d', by have := HCE.out; go_num, rfl, by omega, by omega, by omega, HS2.out, HB2.out⟩
    case measure => have := HCE.out; simp [intOf]; omega
   ·have HS2 : Hid (srch p d' i ((i + j) / 2) = srch p n 0 n) := hid (by have := HS.out; have hp := HP.out; simpa [hp] using this)
    clear HS HP
    go_wp2
    go_roundw
    case rel => exact ⟨i, (i + j) / 2, d', rfl, by rw [HCE.out], by omega, by omega, by omega, HS2.out, HB2.out⟩
    case measure => have := HCE.out; simp [intOf]; omega
  ·have hl1 : ¬ (i : Int) < (j : Int) := by omega
   have HS : Hid (i = srch p n 0 n) := by
    have : srch p d i j = i := by
     cases d with
     | zero => rfl
     | succ d => rw [srch, if_neg hlt]
    rw [this] at hs
    exact hs
   have HB := hid hb
   clear hs hb HF
   go_wp2
   go_ret
   exact ⟨by rw [← HS.out]; rfl, HB.out⟩
set_option maxRecDepth 100000 in
set_option maxHeartbeats 4000000 in
theorem Search127_any (n P Q : Nat) (p : Nat → Bool) (w : World) (hn : n ≤ 16777216)
  (hf : ∀ (h : Nat) (wr : World), h < n → Below w.heap.size w wr → Calls Tryz.prog 127 #[.int .i64 (h : Int), .pointer (some ⟨P, 0, none⟩), .pointer (some ⟨Q, 0, none⟩)] wr fun e w' => e = .returned (.bool (p h)) ∧ Below wr.heap.size wr w') :
  Calls Tryz.prog 125 #[.int .i64 (n : Int), .func (.func 127) #[] #[.pointer (some ⟨P, 0, none⟩), .pointer (some ⟨Q, 0, none⟩)]] w fun e w' => LkQ w ((srch p n 0 n : Nat) : Int) e w' := by
 have HF := hid hf
 clear hf
 go_enter Tryz.func125, Tryz.ntmps125
 go_wp2_with fail
 go_loopw [5, 6] (fun iv jv wr => ∃ i j d : Nat, iv = .int .i64 (i : Int) ∧ jv = .int .i64 (j : Int) ∧ i ≤ j ∧ j ≤ n ∧ j - i ≤ d ∧ srch p d i j = srch p n 0 n ∧ Below w.heap.size w wr) (fun iv jv _ => (intOf jv).toNat - (intOf iv).toNat)
 case atStart => exact ⟨0, n, n, rfl, rfl, Nat.zero_le _, Nat.le_refl _, by omega, rfl, Below.refl _ _⟩
 case round =>
  obtain ⟨i, j, d, rfl, rfl, hij, hjn, hd, hs, hb⟩ := hrel
  by_cases hlt : i < j
  ·obtain ⟨d', rfl⟩ : ∃ d', d = d' + 1 := ⟨d - 1, by omega⟩
   rw [srch, if_pos hlt] at hs
   have hl1 : (i : Int) < (j : Int) := by omega
   have HC := hid (HF.out ((i + j) / 2) wr (by omega) hb)
   have hce : (((i + j) / 2 : Nat) : Int) = ((i : Int) + (j : Int)) / 2 := by omega
   rw [hce] at HC
   have HCE := hid hce
   have HB := hid hb
   have HS := hid hs
   clear hs hb HF hce
   go_wp2_with fail
   refine HC.out.mono ?_
   generalize hp : p ((i + j) / 2) = t at *
   have HP := hid hp
   clear hp
   rintro e w2 ⟨rfl, hb2⟩
   have HB2 := hid (HB.out.trans (hb2.mono HB.out.size))
   clear hb2 HC HB
   cases t
   ·have HS2 : Hid (srch p d' ((i + j) / 2 + 1) j = srch p n 0 n) := hid (by have := HS.out; have hp := HP.out; simpa [hp] using this)
    clear HS HP
    go_wp2
    go_roundw
    case rel => exact ⟨(i + j) / 2 + 1, j, d', by have := HCE.out; go_num, rfl, by omega, by omega, by omega, HS2.out, HB2.out⟩
    case measure => have := HCE.out; simp [intOf]; omega
   ·have HS2 : Hid (srch p d' i ((i + j) / 2) = srch p n 0 n) := hid (by have := HS.out; have hp := HP.out; simpa [hp] using this)
    clear HS HP
    go_wp2
    go_roundw
    case rel => exact ⟨i, (i + j) / 2, d', rfl, by rw [HCE.out], by omega, by omega, by omega, HS2.out, HB2.out⟩
    case measure => have := HCE.out; simp [intOf]; omega
  ·have hl1 : ¬ (i : Int) < (j : Int) := by omega
   have HS : Hid (i = srch p n 0 n) := by
    have : srch p d i j = i := by
     cases d with
     | zero => rfl
     | succ d => rw [srch, if_neg hlt]
    rw [this] at hs
    exact hs
   have HB := hid hb
   clear hs hb HF
   go_wp2
   go_ret
   exact ⟨by rw [← HS.out]; rfl, HB.out⟩
end Go.Proofs.YtddddfankeepkaaGreatDoor
namespace Go.Proofs.YtddddfankeepkaaGreatDoor
open Go.RowKit
def SlB (w : World) (P : Nat) (u : Value) : Prop := w.heap[P]? = some (.cells #[u] 36 (0, 0))
def RgB (w : World) (Q : Nat) (r : Rg) : Prop := w.heap[Q]? = some (.cells #[.int .i64 r.f, .int .i64 r.t] 78 (0, 0))
theorem SlB.lt {w : World} {P : Nat} {u : Value} (h : SlB w P u) : P < w.heap.size := (Array.getElem?_eq_some_iff.1 h).1
theorem RgB.lt {w : World} {P : Nat} {r : Rg} (h : RgB w P r) : P < w.heap.size := (Array.getElem?_eq_some_iff.1 h).1
theorem SlB.keep {w w' : World} {P : Nat} {u : Value} (h : SlB w P u) (hw : w'.heap[P]? = w.heap[P]?) : SlB w' P u := by unfold SlB at *; rw [hw]; exact h
theorem RgB.keep {w w' : World} {P : Nat} {r : Rg} (h : RgB w P r) (hw : w'.heap[P]? = w.heap[P]?) : RgB w' P r := by unfold RgB at *; rw [hw]; exact h
theorem SlB.cs {w : World} {P : Nat} {u : Value} (h : SlB w P u) : w.cell? ⟨P, 0, none⟩ = some u := by unfold SlB at h; simp [World.cell?, h]
theorem RgB.cs {w : World} {P : Nat} {r : Rg} (h : RgB w P r) : w.cell? ⟨P, 0, none⟩ = some (.int .i64 r.f) ∧ w.cell? ⟨P, 1, none⟩ = some (.int .i64 r.t) := by unfold RgB at h; simp [World.cell?, h]
set_option maxRecDepth 100000 in
set_option maxHeartbeats 2000000 in
theorem met1_any (a : Option Addr) (c P Q h : Nat) (rs : List Rg) (r : Rg) (w : World) (hh : h < rs.length) (hR : RdR w.heap.size w a rs) (hP : SlB w P (.slice a rs.length c)) (hQ : RgB w Q r) :
  Calls Tryz.prog 126 #[.int .i64 (h : Int), .pointer (some ⟨P, 0, none⟩), .pointer (some ⟨Q, 0, none⟩)] w fun e w' => e = .returned (.bool (decide (r.f < rs[h].t))) ∧ Below w.heap.size w w' := by
 obtain ⟨b, off, rfl, hbl, hc⟩ := hR.resolve_left (fun e => by rw [e] at hh; simp at hh)
 obtain ⟨d0, d1⟩ := hc h hh
 have c0 := hP.cs
 obtain ⟨q0, q1⟩ := hQ.cs
 have hh' : (h : Int) < (rs.length : Int) := by omega
 clear hc hP hQ
 generalize rs[h] = x at *
 go_enter Tryz.func126, Tryz.ntmps126
 go_wp2_with fail
 go_quiet (fail)
 all_goals go_wp2
 all_goals go_ret
 all_goals exact ⟨rfl, below_drewN' _ _ _⟩
set_option maxRecDepth 100000 in
set_option maxHeartbeats 2000000 in
theorem met2_any (a : Option Addr) (c P Q h : Nat) (rs : List Rg) (r : Rg) (w : World) (hh : h < rs.length) (hR : RdR w.heap.size w a rs) (hP : SlB w P (.slice a rs.length c)) (hQ : RgB w Q r) :
  Calls Tryz.prog 127 #[.int .i64 (h : Int), .pointer (some ⟨P, 0, none⟩), .pointer (some ⟨Q, 0, none⟩)] w fun e w' => e = .returned (.bool (decide (r.t ≤ rs[h].f))) ∧ Below w.heap.size w w' := by
 obtain ⟨b, off, rfl, hbl, hc⟩ := hR.resolve_left (fun e => by rw [e] at hh; simp at hh)
 obtain ⟨d0, d1⟩ := hc h hh
 have c0 := hP.cs
 obtain ⟨q0, q1⟩ := hQ.cs
 have hh' : (h : Int) < (rs.length : Int) := by omega
 clear hc hP hQ
 generalize rs[h] = x at *
 go_enter Tryz.func127, Tryz.ntmps127
 go_wp2_with fail
 go_quiet (fail)
 all_goals go_wp2
 all_goals go_ret
 all_goals exact ⟨rfl, below_drewN' _ _ _⟩
set_option maxRecDepth 100000 in
set_option maxHeartbeats 2000000 in
theorem isEmpty_any (r : Rg) (w : World) : Calls Tryz.prog 111 #[.agg #[.int .i64 r.f, .int .i64 r.t]] w fun e w' => e = .returned (.bool (decide (r.t ≤ r.f))) ∧ Below w.heap.size w w' := by
 have HB := hid (below1 w (.cells #[.int .i64 r.f, .int .i64 r.t] 78))
 go_enter Tryz.func111, Tryz.ntmps111
 go_wp2
 go_ret
 exact ⟨rfl, HB.out⟩
end Go.Proofs.YtddddfankeepkaaGreatDoor
namespace Go.Proofs.YtddddfankeepkaaGreatDoor
open Go.RowKit
theorem RdR.drop {B : Nat} {w : World} {b off : Nat} {rs : List Rg} (h : RdR B w (some ⟨b, off, none⟩) rs) (i : Nat) : RdR B w (some ⟨b, off + i * 2, none⟩) (rs.drop i) := by
 rcases h with rfl | ⟨b', off', e, hlt, hc⟩
 ·exact .inl (by simp)
 ·simp at e
  obtain ⟨rfl, rfl⟩ := e
  refine .inr ⟨b, off + i * 2, rfl, hlt, fun j hj => ?_⟩
  rw [List.length_drop] at hj
  have := hc (i + j) (by omega)
  rw [List.getElem_drop]
  rw [show off + i * 2 + j * 2 = off + (i + j) * 2 by omega]
  exact this
def metI (rs : List Rg) (r : Rg) : Nat := srch (fun h => decide (r.f < (rs.getD h ⟨0, 0⟩).t)) rs.length 0 rs.length
def metJ (rs : List Rg) (r : Rg) : Nat := srch (fun h => decide (r.t ≤ ((rs.drop (metI rs r)).getD h ⟨0, 0⟩).f)) (rs.length - metI rs r) 0 (rs.length - metI rs r)
theorem metI_le (rs : List Rg) (r : Rg) : metI rs r ≤ rs.length := (srch_le _ _ _ _ (Nat.zero_le _)).2
theorem metJ_le (rs : List Rg) (r : Rg) : metI rs r + metJ rs r ≤ rs.length := by
 have h1 := metI_le rs r
 have h2 : metJ rs r ≤ rs.length - metI rs r := (srch_le _ _ _ _ (Nat.zero_le _)).2
 omega
set_option maxRecDepth 100000 in
set_option maxHeartbeats 4000000 in
theorem met_any (b off c : Nat) (rs : List Rg) (r : Rg) (w : World) (hl : rs.length ≤ 16777216) (hc : rs.length ≤ c) (hR : RdR w.heap.size w (some ⟨b, off, none⟩) rs) :
  Calls Tryz.prog 110 #[.slice (some ⟨b, off, none⟩) rs.length c, .agg #[.int .i64 r.f, .int .i64 r.t]] w fun e w' => e = .returned (.tuple #[.int .i64 (metI rs r : Int), .int .i64 ((metI rs r : Int) + (metJ rs r : Int))]) ∧ Below w.heap.size w w' := by
 obtain ⟨P, hP⟩ : ∃ P, P = w.heap.size := ⟨_, rfl⟩
 obtain ⟨Q, hQ⟩ : ∃ Q, Q = w.heap.size + 1 := ⟨_, rfl⟩
 obtain ⟨U, hU⟩ : ∃ U, U = (w.alloc (.cells #[.slice (some ⟨b, off, none⟩) rs.length c] 36)).alloc (.cells #[.int .i64 r.f, .int .i64 r.t] 78) := ⟨_, rfl⟩
 have bU : Below w.heap.size w U := by rw [hU]; exact ((Below.refl _ _).alloc (Nat.le_refl _) _).alloc (by simp) _
 have sP : SlB U P (.slice (some ⟨b, off, none⟩) rs.length c) := by
  unfold SlB
  rw [hU, hP, Below.heap_alloc _ _ _ (by simp)]
  exact heap_new _ _
 have sQ : RgB U Q r := by
  have := heap_new (w.alloc (.cells #[.slice (some ⟨b, off, none⟩) rs.length c] 36)) (.cells #[.int .i64 r.f, .int .i64 r.t] 78)
  rw [World.size_alloc, ← hU, ← hQ] at this
  exact this
 have rU := (hR.below bU).mono bU.size
 have HS1 : Hid (Calls Tryz.prog 125 #[.int .i64 (rs.length : Int), .func (.func 126) #[] #[.pointer (some ⟨P, 0, none⟩), .pointer (some ⟨Q, 0, none⟩)]] U fun e w' => LkQ U (metI rs r : Int) e w') := Search126_any rs.length P Q _ U hl (fun h wr hh hb => by
  have := met1_any (some ⟨b, off, none⟩) c P Q h rs r wr hh ((rU.below hb).mono hb.size) (sP.keep (hb.block _ sP.lt)) (sQ.keep (hb.block _ sQ.lt))
  have e : (rs.getD h ⟨0, 0⟩) = rs[h] := by simp [hh]
  rw [e]
  exact this)
 obtain ⟨i, hi⟩ : ∃ i, metI rs r = i := ⟨_, rfl⟩
 obtain ⟨j, hj⟩ : ∃ j, metJ rs r = j := ⟨_, rfl⟩
 have hin := metI_le rs r
 have hjn := metJ_le rs r
 have HJ : Hid (metJ rs r = srch (fun h => decide (r.t ≤ ((rs.drop i).getD h ⟨0, 0⟩).f)) (rs.length - i) 0 (rs.length - i)) := by unfold metJ; rw [hi]; exact rfl
 rw [hi] at HS1 hin hjn
 rw [hj] at HJ hjn
 rw [hi, hj]
 have c0 := sP.cs
 have HU := hid hU
 have HE : Hid (w.heap.size = P ∧ w.heap.size + 1 = Q) := ⟨by omega, by omega⟩
 have HBU := hid bU
 have HSP := hid sP
 have HSQ := hid sQ
 have HRU := hid rU
 clear hU hP hQ bU sP sQ rU hR hi hj c0
 go_enter Tryz.func110, Tryz.ntmps110
 go_wp2_with fail
 rw [← HU.out, HE.out.2, HE.out.1]
 refine HS1.out.mono ?_
 rintro e w2 ⟨rfl, hb2⟩
 have c0 := (HSP.out.keep (hb2.block _ HSP.out.lt)).cs
 have hPl : P < w2.heap.size := Nat.lt_of_lt_of_le HSP.out.lt hb2.size
 have HB2 := hid hb2
 have hii : (i : Int) ≤ (rs.length : Int) := by omega
 have hic : (i : Int) ≤ (c : Int) := by omega
 obtain ⟨ad, had⟩ : ∃ ad : Addr, ad = (if c = i then ⟨b, off, none⟩ else ⟨b, off + i * 2, none⟩) := ⟨_, rfl⟩
 have hRd : RdR w2.heap.size w2 (some ad) (rs.drop i) := by
  have h1 := (HRU.out.below hb2).mono hb2.size
  rw [had]
  split
  ·exact .inl (List.drop_of_length_le (by omega))
  ·exact h1.drop i
 obtain ⟨P2, hP2⟩ : ∃ P2, P2 = w2.heap.size := ⟨_, rfl⟩
 obtain ⟨W3, hW3⟩ : ∃ W3, W3 = w2.alloc (.cells #[.slice (some ad) (rs.length - i) (c - i)] 36) := ⟨_, rfl⟩
 have b3 : Below w2.heap.size w2 W3 := by rw [hW3]; exact below1 _ _
 have s3 : SlB W3 P2 (.slice (some ad) (rs.length - i) (c - i)) := by rw [hW3, hP2]; exact heap_new _ _
 have q3 := (HSQ.out.keep (hb2.block _ HSQ.out.lt))
 have q3' := q3.keep (b3.block _ q3.lt)
 have hRd3 := (hRd.below b3).mono b3.size
 have hdl : (rs.drop i).length = rs.length - i := List.length_drop ..
 have HS2 : Hid (Calls Tryz.prog 125 #[.int .i64 ((rs.length - i : Nat) : Int), .func (.func 127) #[] #[.pointer (some ⟨P2, 0, none⟩), .pointer (some ⟨Q, 0, none⟩)]] W3 fun e w' => LkQ W3 (j : Int) e w') := by
  have := Search127_any (rs.length - i) P2 Q (fun h => decide (r.t ≤ ((rs.drop i).getD h ⟨0, 0⟩).f)) W3 (by omega) (fun h wr hh hb => by
   rw [← hdl] at s3
   have := met2_any (some ad) (c - i) P2 Q h (rs.drop i) r wr (by rw [hdl]; exact hh) ((hRd3.below hb).mono hb.size) (s3.keep (hb.block _ s3.lt)) (q3'.keep (hb.block _ q3'.lt))
   have e : ((rs.drop i).getD h ⟨0, 0⟩) = (rs.drop i)[h]'(by rw [hdl]; exact hh) := by rw [List.getD_eq_getElem?_getD, List.getElem?_eq_getElem (by rw [hdl]; exact hh)]; rfl
   rw [e]
   exact this)
  rw [← HJ.out] at this
  exact this
 have HB3 := hid (HBU.out.trans (((hb2.trans (b3.mono hb2.size))).mono HBU.out.size))
 have HW3 := hid hW3
 have HP2 := hid hP2
 by_cases hci : c = i
 ·rw [if_pos hci] at had
  subst had
  have h0 : c - i = 0 := by omega
  rw [h0] at HW3
  clear h0
  clear hb2 hRd b3 s3 q3 q3' hRd3 hdl hW3 hP2 HRU HSP HSQ HBU HU HE HS1 HJ HB2
  go_wp2_with fail
  rw [← HW3.out, ← HP2.out]
  refine HS2.out.mono ?_
  rintro e w4 ⟨rfl, hb4⟩
  have HB4 := hid (HB3.out.trans (hb4.mono HB3.out.size))
  clear hb4 HS2 HW3 HP2
  go_wp2
  go_ret2
  exact ⟨rfl, HB4.out⟩
 ·rw [if_neg hci] at had
  subst had
  clear hb2 hRd b3 s3 q3 q3' hRd3 hdl hW3 hP2 HRU HSP HSQ HBU HU HE HS1 HJ HB2
  go_wp2_with fail
  rw [← HW3.out, ← HP2.out]
  refine HS2.out.mono ?_
  rintro e w4 ⟨rfl, hb4⟩
  have HB4 := hid (HB3.out.trans (hb4.mono HB3.out.size))
  clear hb4 HS2 HW3 HP2
  go_wp2
  go_ret2
  exact ⟨rfl, HB4.out⟩
end Go.Proofs.YtddddfankeepkaaGreatDoor
namespace Go.Proofs.YtddddfankeepkaaGreatDoor
open Go.RowKit
def emp (r : Rg) : Bool := decide (r.t ≤ r.f)
def empF : List Rg → Nat → Int
 | [], _ => -1
 | r :: l, k => if emp r then (k : Int) else empF l (k + 1)
set_option maxRecDepth 100000 in
set_option maxHeartbeats 4000000 in
theorem IndexEmpty_any (a : Option Addr) (c : Nat) (rs : List Rg) (w : World) (hl : rs.length ≤ 16777216) (hR : RdR w.heap.size w a rs) :
  Calls Tryz.prog 141 #[.slice a rs.length c, .func (.func 111) #[] #[]] w fun e w' => LkQ w (empF rs 0) e w' := by
 have HR := hid hR
 clear hR
 go_enter Tryz.func141, Tryz.ntmps141
 go_wp2_with fail
 go_loopw [8] (fun i wr => ∃ r : Nat, r ≤ rs.length ∧ i = .int .i64 (r : Int) ∧ empF (rs.drop r) r = empF rs 0 ∧ Below w.heap.size w wr) (fun i _ => rs.length - (intOf i).toNat)
 case atStart => exact ⟨0, Nat.zero_le _, rfl, by simp, Below.refl _ _⟩
 case round =>
  obtain ⟨r, hr, rfl, ht, hb⟩ := hrel
  by_cases hlt : r < rs.length
  ·obtain ⟨b, off, rfl, hbl, hc⟩ := (HR.out.below hb).resolve_left (fun e => by rw [e] at hlt; simp at hlt)
   obtain ⟨c0, c1⟩ := hc r hlt
   have HC := hid (isEmpty_any rs[r] wr)
   have hd : rs.drop r = rs[r] :: rs.drop (r + 1) := List.drop_eq_getElem_cons hlt
   rw [hd, empF] at ht
   have HT := hid ht
   have HB := hid hb
   clear hc ht hd hb HR
   generalize rs[r] = v at *
   have hr1 : (r : Int) < (rs.length : Int) := by omega
   by_cases e : v.t ≤ v.f
   ·have HT1 : Hid (empF rs 0 = (r : Int)) := hid (by have := HT.out; unfold emp at this; rw [if_pos (by simpa using e)] at this; exact this.symm)
    rw [decide_eq_true e] at HC
    clear HT e
    go_wp2_with fail
    refine HC.out.mono ?_
    rintro e' w1 ⟨rfl, hb1⟩
    have HB1 := hid (HB.out.trans (hb1.mono HB.out.size))
    clear hb1 HC c0 c1
    go_wp2
    go_ret
    exact ⟨by rw [HT1.out]; rfl, HB1.out⟩
   ·have HT1 : Hid (empF (rs.drop (r + 1)) (r + 1) = empF rs 0) := hid (by have := HT.out; unfold emp at this; rw [if_neg (by simpa using e)] at this; exact this)
    rw [decide_eq_false e] at HC
    clear HT e
    go_wp2_with fail
    refine HC.out.mono ?_
    rintro e' w1 ⟨rfl, hb1⟩
    have HB1 := hid (HB.out.trans (hb1.mono HB.out.size))
    clear hb1 HC c0 c1
    go_wp2
    go_roundw
    case rel => exact ⟨r + 1, by omega, by go_num, HT1.out, HB1.out⟩
    case measure => simp [intOf]; omega
  ·have e : r = rs.length := by omega
   subst e
   have HB := hid hb
   have HT : Hid (empF rs 0 = -1) := hid (by rw [List.drop_length, empF] at ht; exact ht.symm)
   clear hb ht
   go_wp2
   go_ret
   exact ⟨by rw [HT.out]; rfl, HB.out⟩
end Go.Proofs.YtddddfankeepkaaGreatDoor
