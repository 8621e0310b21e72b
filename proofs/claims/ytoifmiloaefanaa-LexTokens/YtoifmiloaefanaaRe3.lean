/-
  The document's: token.
-/
import Derived.Test.YtoifmiloaefanaaRe2
namespace Go.Proofs.Ytoifmiloaefanaa
open Go.RowKit

theorem results_row_tmp2 {P : Program} {fn : Func} {p u v : Tmp} {ty : TypeId} (h : fn.results = #[.cell p ty, .tmp u, .tmp v]) (tmps : Array Value) (w : World) (g : Nat) (t : TypeId) (cs : Array Value) (fr : Nat × Nat) (d : TypeDesc) (x y : Value)
    (hp : tmps.getD p undef = .pointer (some ⟨g, 0, none⟩)) (hx : tmps.getD u undef = x) (hy : tmps.getD v undef = y) (hg : w.heap[g]? = some (.cells cs t fr))
    (hu : P.underlying ty = some d) (hd : (match d with | .struct _ | .array _ _ => true | _ => false) = true) (hi : (P.info? ty).map (·.size) = some cs.size) :
    (results fn tmps).run P w = .ok (.tuple #[.agg cs, x, y]) w := by
  have hp' := hp
  have hx' := hx
  have hy' := hy
  simp only [Array.getD_eq_getD_getElem?] at hp' hx' hy'
  simp only [results, h]
  simp [hp', hx', hy', asAddr, run_loadVar_row w g t ty cs fr d hg hu hd hi]
theorem results_tok3 {fn : Func} {p u v : Tmp} (h : fn.results = #[.cell p 29, .tmp u, .tmp v]) (tmps : Array Value) (w : World) (R : Nat) (k : Int) (s : ByteArray) (n a : Int) (x y : Value) (hp : tmps.getD p undef = .pointer (some ⟨R, 0, none⟩)) (hx : tmps.getD u undef = x) (hy : tmps.getD v undef = y) (hB : TkB w R k s n a) :
    (results fn tmps).run Try.prog w = .ok (.tuple #[.agg (tcs k s n a), x, y]) w :=
  results_row_tmp2 h tmps w R 29 _ (0, 0) _ x y hp hx hy hB Try.underlying29 rfl (by kernel_rfl)

/-- what the document's token answers -/
def RtC (r : Tk × Nat × Int) (w : World) (e : Ending) (w' : World) : Prop := e = .returned (.tuple #[tokV (if r.2.2 = 0 then r.1 else tk0 0), .int .i64 (r.2.1 : Int), .int .i64 r.2.2]) ∧ Below w.heap.size w w'
theorem conv_cut {b off n c : Nat} {zs : List Int} {W : World} (hB : Pl.isB zs) (hz : zs.length = n) (hc : ∀ j, j < n → W.cell? ⟨b, off + j, none⟩ = some (.int .u8 (zs.getD j 0))) (hb : b < W.heap.size) (p q : Nat) (hpq : p ≤ q) (hq : q ≤ n) : (convert 22 9 (.slice (some ⟨b, off + p, none⟩) (q - p) (c - p))).run Try.prog W = .ok (.string (strOfNums (subL zs p q))) W := by
  have hR : Rd W.heap.size W (some ⟨b, off, none⟩) n zs := ⟨hz, hB, .inr ⟨b, off, rfl, hb, hc⟩⟩
  have hl : (subL zs p q).length = q - p := sub_len (by omega)
  refine conv_str (B := W.heap.size) ⟨hl, isB_sub hB _ _, ?_⟩ (c - p)
  by_cases h0 : q - p = 0
  · exact .inl h0
  · exact .inr ⟨b, off + p, rfl, hb, fun t ht => by rw [Nat.add_assoc, hc (p + t) (by omega), subL_at (by omega) ht]⟩

set_option maxRecDepth 100000 in
set_option maxHeartbeats 4000000 in
theorem rtok_word (b off n c : Nat) (zs : List Int) (k : Nat) (w : World) (hB : Pl.isB zs) (hn : n ≤ 16777216) (hcn : n ≤ c) (hz : zs.length = n) (hk : k < n) (hbl : b < w.heap.size) (hc : ∀ j, j < n → w.cell? ⟨b, off + j, none⟩ = some (.int .u8 (zs.getD j 0))) (q : isLet (zs.getD k 0) = true) :
    Calls Try.prog 17 #[.slice (some ⟨b, off, none⟩) n c, .int .i64 (k : Int)] w (RtC (⟨1, subL zs k (pasA isWd zs k), 0, k⟩, pasA isWd zs k, 0) w) := by
  have HBn := And.intro hB hn
  clear HBn
  obtain ⟨W0, hW0⟩ : ∃ W0, W0 = w.alloc (.cells (tcs 0 sE 0 0) 29) := ⟨_, rfl⟩
  have b0 : Below w.heap.size w W0 := by rw [hW0]; exact below1 _ _
  have hc0 : ∀ j, j < n → W0.cell? ⟨b, off + j, none⟩ = some (.int .u8 (zs.getD j 0)) := fun j hj => (b0.cell (show b < _ from hbl)).trans (hc j hj)
  have hbl0 : b < W0.heap.size := by have := b0.size; omega
  obtain ⟨PO, hPO⟩ : ∃ PO, PO = RtC (⟨1, subL zs k (pasA isWd zs k), 0, k⟩, pasA isWd zs k, 0) w := ⟨_, rfl⟩
  rw [← hPO]
  obtain ⟨R, hR⟩ : ∃ R, R = w.heap.size := ⟨_, rfl⟩
  have hck : ∀ o, (w.alloc o).cell? ⟨b, off + k, none⟩ = some (.int .u8 (zs.getD k 0)) := fun o => ((below1 w o).cell (show b < _ from hbl)).trans (hc k hk)
  have hk' : (k : Int) < (n : Int) := by omega
  have hkc : (k : Int) ≤ (c : Int) := by omega
  have hkc2 : ¬ c = k := by omega
  have H27 := hid (rword_any b off n c zs k W0 hn hz hk q hc0)
  obtain ⟨E, hE⟩ : ∃ E, E = pasA isWd zs k := ⟨_, rfl⟩
  rw [← hE] at H27 hPO
  have hE1 : k ≤ E := by rw [hE]; exact pasA_ge _ _ _
  have hE2 : E ≤ n := by rw [hE, ← hz]; exact pasA_le (by omega)
  have hcv := conv_cut (c := c) hB hz hc0 hbl0 k E hE1 hE2
  have e1 : (k : Int) ≤ (E : Int) := by omega
  have e2 : (E : Int) ≤ (c : Int) := by omega
  have H26 := hid (fun u => rletter_any (zs.getD k 0) u)
  rw [q] at H26
  have HF : Hid (PO (.returned (.tuple #[.agg (tcs 1 (strOfNums (subL zs k E)) 0 k), .int .i64 (E : Int), .int .i64 0])) (w.alloc (.cells (tcs 1 (strOfNums (subL zs k E)) 0 k) 29))) := by
    rw [hPO]
    exact ⟨rfl, below1 _ _⟩
  rw [hW0] at H27 hcv
  clear hW0 hE q
  generalize zs.getD k 0 = z at *
  generalize strOfNums (subL zs k E) = U at *
  clear hc hc0 hbl hbl0 hPO b0 hB
  go_enter Try.func17, Try.ntmps17
  go_wp2_with (first | (go_at_call 26; with_reducible refine Calls.mono (H26.out _) ?_; rintro e w1 ⟨rfl, rfl⟩) | (go_at_call 27; with_reducible refine Calls.mono H27.out ?_; rintro e w1 ⟨rfl, rfl⟩))
  exact bodyPost_ret (results_tok3 rfl _ _ w.heap.size 1 U 0 k (.int .i64 (E : Int)) (.int .i64 0) rfl rfl rfl (heap_new _ _)) rfl HF.out

set_option maxRecDepth 100000 in
set_option maxHeartbeats 4000000 in
theorem rtok_mark (b off n c : Nat) (zs : List Int) (k : Nat) (w : World) (hB : Pl.isB zs) (hn : n ≤ 16777216) (hcn : n ≤ c) (hz : zs.length = n) (hk : k < n) (hbl : b < w.heap.size) (hc : ∀ j, j < n → w.cell? ⟨b, off + j, none⟩ = some (.int .u8 (zs.getD j 0))) (q1 : isLet (zs.getD k 0) = false) (q2 : isDig (zs.getD k 0) = false) (q3 : zs.getD k 0 ≠ 34) (q4 : isMk (zs.getD k 0) = true) :
    Calls Try.prog 17 #[.slice (some ⟨b, off, none⟩) n c, .int .i64 (k : Int)] w (RtC (⟨4, subL zs k (k + 1), 0, k⟩, k + 1, 0) w) := by
  have HBn := And.intro hB hn
  clear HBn
  obtain ⟨W0, hW0⟩ : ∃ W0, W0 = w.alloc (.cells (tcs 0 sE 0 0) 29) := ⟨_, rfl⟩
  have b0 : Below w.heap.size w W0 := by rw [hW0]; exact below1 _ _
  have hc0 : ∀ j, j < n → W0.cell? ⟨b, off + j, none⟩ = some (.int .u8 (zs.getD j 0)) := fun j hj => (b0.cell (show b < _ from hbl)).trans (hc j hj)
  have hbl0 : b < W0.heap.size := by have := b0.size; omega
  obtain ⟨PO, hPO⟩ : ∃ PO, PO = RtC (⟨4, subL zs k (k + 1), 0, k⟩, k + 1, 0) w := ⟨_, rfl⟩
  rw [← hPO]
  obtain ⟨R, hR⟩ : ∃ R, R = w.heap.size := ⟨_, rfl⟩
  have hck : ∀ o, (w.alloc o).cell? ⟨b, off + k, none⟩ = some (.int .u8 (zs.getD k 0)) := fun o => ((below1 w o).cell (show b < _ from hbl)).trans (hc k hk)
  have hk' : (k : Int) < (n : Int) := by omega
  have hkc : (k : Int) ≤ (c : Int) := by omega
  have hkc2 : ¬ c = k := by omega
  have hcv := conv_cut (c := c) hB hz hc0 hbl0 k (k + 1) (by omega) (by omega)
  rw [show k + 1 - k = 1 by omega] at hcv
  have e1 : (k : Int) + 1 ≤ (c : Int) := by omega
  have H26 := hid (fun u => rletter_any (zs.getD k 0) u)
  have H28 := hid (fun u => rdigit_any (zs.getD k 0) u)
  have H31 := hid (fun u => rhas_any [59, 123, 125, 40, 41, 44, 61, 60, 43, 45, 42, 47, 37] isB_mk (by decide) (zs.getD k 0) u)
  rw [q1] at H26
  rw [q2] at H28
  rw [mk_eq, q4, show strOfNums [59, 123, 125, 40, 41, 44, 61, 60, 43, 45, 42, 47, 37] = ⟨#[59, 123, 125, 40, 41, 44, 61, 60, 43, 45, 42, 47, 37]⟩ from rfl] at H31
  have HF : Hid (PO (.returned (.tuple #[.agg (tcs 4 (strOfNums (subL zs k (k + 1))) 0 k), .int .i64 ((k : Int) + 1), .int .i64 0])) (w.alloc (.cells (tcs 4 (strOfNums (subL zs k (k + 1))) 0 k) 29))) := by
    rw [hPO]
    exact ⟨rfl, below1 _ _⟩
  rw [hW0] at hcv
  clear hW0 q1 q2 q4
  generalize zs.getD k 0 = z at *
  generalize strOfNums (subL zs k (k + 1)) = U at *
  clear hc hc0 hbl hbl0 hPO b0 hB
  go_enter Try.func17, Try.ntmps17
  go_wp2_with (first | (go_at_call 26; with_reducible refine Calls.mono (H26.out _) ?_; rintro e w1 ⟨rfl, rfl⟩) | (go_at_call 28; with_reducible refine Calls.mono (H28.out _) ?_; rintro e w1 ⟨rfl, rfl⟩) | (go_at_call 31; with_reducible refine Calls.mono (H31.out _) ?_; rintro e w1 ⟨rfl, rfl⟩))
  exact bodyPost_ret (results_tok3 rfl _ _ w.heap.size 4 U 0 k (.int .i64 ((k : Int) + 1)) (.int .i64 0) rfl rfl rfl (heap_new _ _)) rfl HF.out

set_option maxRecDepth 100000 in
set_option maxHeartbeats 4000000 in
theorem rtok_none (b off n c : Nat) (zs : List Int) (k : Nat) (w : World) (hB : Pl.isB zs) (hn : n ≤ 16777216) (hcn : n ≤ c) (hz : zs.length = n) (hk : k < n) (hbl : b < w.heap.size) (hc : ∀ j, j < n → w.cell? ⟨b, off + j, none⟩ = some (.int .u8 (zs.getD j 0))) (q1 : isLet (zs.getD k 0) = false) (q2 : isDig (zs.getD k 0) = false) (q3 : zs.getD k 0 ≠ 34) (q4 : isMk (zs.getD k 0) = false) :
    Calls Try.prog 17 #[.slice (some ⟨b, off, none⟩) n c, .int .i64 (k : Int)] w (RtC (tk0 k, k, 181) w) := by
  have HBn := And.intro hB hn
  clear HBn
  obtain ⟨W0, hW0⟩ : ∃ W0, W0 = w.alloc (.cells (tcs 0 sE 0 0) 29) := ⟨_, rfl⟩
  have b0 : Below w.heap.size w W0 := by rw [hW0]; exact below1 _ _
  have hc0 : ∀ j, j < n → W0.cell? ⟨b, off + j, none⟩ = some (.int .u8 (zs.getD j 0)) := fun j hj => (b0.cell (show b < _ from hbl)).trans (hc j hj)
  have hbl0 : b < W0.heap.size := by have := b0.size; omega
  obtain ⟨PO, hPO⟩ : ∃ PO, PO = RtC (tk0 k, k, 181) w := ⟨_, rfl⟩
  rw [← hPO]
  obtain ⟨R, hR⟩ : ∃ R, R = w.heap.size := ⟨_, rfl⟩
  have hck : ∀ o, (w.alloc o).cell? ⟨b, off + k, none⟩ = some (.int .u8 (zs.getD k 0)) := fun o => ((below1 w o).cell (show b < _ from hbl)).trans (hc k hk)
  have hk' : (k : Int) < (n : Int) := by omega
  have hkc : (k : Int) ≤ (c : Int) := by omega
  have hkc2 : ¬ c = k := by omega
  have H26 := hid (fun u => rletter_any (zs.getD k 0) u)
  have H28 := hid (fun u => rdigit_any (zs.getD k 0) u)
  have H31 := hid (fun u => rhas_any [59, 123, 125, 40, 41, 44, 61, 60, 43, 45, 42, 47, 37] isB_mk (by decide) (zs.getD k 0) u)
  rw [q1] at H26
  rw [q2] at H28
  rw [mk_eq, q4, show strOfNums [59, 123, 125, 40, 41, 44, 61, 60, 43, 45, 42, 47, 37] = ⟨#[59, 123, 125, 40, 41, 44, 61, 60, 43, 45, 42, 47, 37]⟩ from rfl] at H31
  have HF : Hid (PO (.returned (.tuple #[.agg (tcs 0 sE 0 0), .int .i64 (k : Int), .int .i64 181])) (w.alloc (.cells (tcs 0 sE 0 0) 29))) := by
    rw [hPO]
    exact ⟨rfl, below1 _ _⟩
  clear hW0 q1 q2 q4
  generalize zs.getD k 0 = z at *
  clear hc hc0 hbl hbl0 hPO b0 hB
  go_enter Try.func17, Try.ntmps17
  go_wp2_with (first | (go_at_call 26; with_reducible refine Calls.mono (H26.out _) ?_; rintro e w1 ⟨rfl, rfl⟩) | (go_at_call 28; with_reducible refine Calls.mono (H28.out _) ?_; rintro e w1 ⟨rfl, rfl⟩) | (go_at_call 31; with_reducible refine Calls.mono (H31.out _) ?_; rintro e w1 ⟨rfl, rfl⟩))
  exact bodyPost_ret (results_tok3 rfl _ _ w.heap.size 0 sE 0 0 (.int .i64 (k : Int)) (.int .i64 181) rfl rfl rfl (heap_new _ _)) rfl HF.out

set_option maxRecDepth 100000 in
set_option maxHeartbeats 4000000 in
theorem rtok_big (b off n c : Nat) (zs : List Int) (k : Nat) (w : World) (hB : Pl.isB zs) (hn : n ≤ 16777216) (hcn : n ≤ c) (hz : zs.length = n) (hk : k < n) (hbl : b < w.heap.size) (hc : ∀ j, j < n → w.cell? ⟨b, off + j, none⟩ = some (.int .u8 (zs.getD j 0))) (q1 : isLet (zs.getD k 0) = false) (q2 : isDig (zs.getD k 0) = true) (q3 : 1099511627776 < nbT zs k) :
    Calls Try.prog 17 #[.slice (some ⟨b, off, none⟩) n c, .int .i64 (k : Int)] w (RtC (tk0 k, k, 182) w) := by
  have HBn := And.intro hB hn
  clear HBn
  obtain ⟨W0, hW0⟩ : ∃ W0, W0 = w.alloc (.cells (tcs 0 sE 0 0) 29) := ⟨_, rfl⟩
  have b0 : Below w.heap.size w W0 := by rw [hW0]; exact below1 _ _
  have hc0 : ∀ j, j < n → W0.cell? ⟨b, off + j, none⟩ = some (.int .u8 (zs.getD j 0)) := fun j hj => (b0.cell (show b < _ from hbl)).trans (hc j hj)
  have hbl0 : b < W0.heap.size := by have := b0.size; omega
  obtain ⟨PO, hPO⟩ : ∃ PO, PO = RtC (tk0 k, k, 182) w := ⟨_, rfl⟩
  rw [← hPO]
  obtain ⟨R, hR⟩ : ∃ R, R = w.heap.size := ⟨_, rfl⟩
  have hck : ∀ o, (w.alloc o).cell? ⟨b, off + k, none⟩ = some (.int .u8 (zs.getD k 0)) := fun o => ((below1 w o).cell (show b < _ from hbl)).trans (hc k hk)
  have hk' : (k : Int) < (n : Int) := by omega
  have hkc : (k : Int) ≤ (c : Int) := by omega
  have hkc2 : ¬ c = k := by omega
  have H29 := hid (rnumber_any b off n c zs k W0 hn hz hk hc0)
  have hE2 : nbE zs k ≤ n := by rw [← hz]; exact unE_le (pasA_le (by omega))
  have H26 := hid (fun u => rletter_any (zs.getD k 0) u)
  have H28 := hid (fun u => rdigit_any (zs.getD k 0) u)
  rw [q1] at H26
  rw [q2] at H28
  have hcE : ∀ o, nbE zs k < n → (w.alloc o).cell? ⟨b, off + nbE zs k, none⟩ = some (.int .u8 (zs.getD (nbE zs k) 0)) := fun o hj => ((below1 w o).cell (show b < _ from hbl)).trans (hc _ hj)
  have HF : Hid (PO (.returned (.tuple #[.agg (tcs 0 sE 0 0), .int .i64 (k : Int), .int .i64 182])) (w.alloc (.cells (tcs 0 sE 0 0) 29))) := by
    rw [hPO]
    exact ⟨rfl, below1 _ _⟩
  rw [show rnb zs k = 1099511627777 from if_pos q3] at H29
  clear q3
  rw [hW0] at H29
  clear hW0 q1 q2
  generalize zs.getD k 0 = z at *
  generalize nbE zs k = E at *
  clear hc hc0 hbl hbl0 hPO b0 hB
  go_enter Try.func17, Try.ntmps17
  go_wp2_with (first | (go_at_call 26; with_reducible refine Calls.mono (H26.out _) ?_; rintro e w1 ⟨rfl, rfl⟩) | (go_at_call 28; with_reducible refine Calls.mono (H28.out _) ?_; rintro e w1 ⟨rfl, rfl⟩) | (go_at_call 29; with_reducible refine Calls.mono H29.out ?_; rintro e w1 ⟨rfl, rfl⟩))
  exact bodyPost_ret (results_tok3 rfl _ _ w.heap.size 0 sE 0 0 (.int .i64 (k : Int)) (.int .i64 182) rfl rfl rfl (heap_new _ _)) rfl HF.out

set_option maxRecDepth 100000 in
set_option maxHeartbeats 4000000 in
theorem rtok_end (b off n c : Nat) (zs : List Int) (k : Nat) (w : World) (hB : Pl.isB zs) (hn : n ≤ 16777216) (hcn : n ≤ c) (hz : zs.length = n) (hk : k < n) (hbl : b < w.heap.size) (hc : ∀ j, j < n → w.cell? ⟨b, off + j, none⟩ = some (.int .u8 (zs.getD j 0))) (q1 : isLet (zs.getD k 0) = false) (q2 : isDig (zs.getD k 0) = true) (q3 : ¬ 1099511627776 < nbT zs k) (q4 : nbE zs k = n) :
    Calls Try.prog 17 #[.slice (some ⟨b, off, none⟩) n c, .int .i64 (k : Int)] w (RtC (⟨3, [], nbT zs k, k⟩, nbE zs k, 0) w) := by
  have HBn := And.intro hB hn
  clear HBn
  obtain ⟨W0, hW0⟩ : ∃ W0, W0 = w.alloc (.cells (tcs 0 sE 0 0) 29) := ⟨_, rfl⟩
  have b0 : Below w.heap.size w W0 := by rw [hW0]; exact below1 _ _
  have hc0 : ∀ j, j < n → W0.cell? ⟨b, off + j, none⟩ = some (.int .u8 (zs.getD j 0)) := fun j hj => (b0.cell (show b < _ from hbl)).trans (hc j hj)
  have hbl0 : b < W0.heap.size := by have := b0.size; omega
  obtain ⟨PO, hPO⟩ : ∃ PO, PO = RtC (⟨3, [], nbT zs k, k⟩, nbE zs k, 0) w := ⟨_, rfl⟩
  rw [← hPO]
  obtain ⟨R, hR⟩ : ∃ R, R = w.heap.size := ⟨_, rfl⟩
  have hck : ∀ o, (w.alloc o).cell? ⟨b, off + k, none⟩ = some (.int .u8 (zs.getD k 0)) := fun o => ((below1 w o).cell (show b < _ from hbl)).trans (hc k hk)
  have hk' : (k : Int) < (n : Int) := by omega
  have hkc : (k : Int) ≤ (c : Int) := by omega
  have hkc2 : ¬ c = k := by omega
  have H29 := hid (rnumber_any b off n c zs k W0 hn hz hk hc0)
  have hE2 : nbE zs k ≤ n := by rw [← hz]; exact unE_le (pasA_le (by omega))
  have H26 := hid (fun u => rletter_any (zs.getD k 0) u)
  have H28 := hid (fun u => rdigit_any (zs.getD k 0) u)
  rw [q1] at H26
  rw [q2] at H28
  have hcE : ∀ o, nbE zs k < n → (w.alloc o).cell? ⟨b, off + nbE zs k, none⟩ = some (.int .u8 (zs.getD (nbE zs k) 0)) := fun o hj => ((below1 w o).cell (show b < _ from hbl)).trans (hc _ hj)
  have HF : Hid (PO (.returned (.tuple #[.agg (tcs 3 sE (nbT zs k) k), .int .i64 (nbE zs k : Int), .int .i64 0])) (w.alloc (.cells (tcs 3 sE (nbT zs k) k) 29))) := by
    rw [hPO]
    exact ⟨rfl, below1 _ _⟩
  rw [show rnb zs k = nbT zs k from if_neg q3] at H29
  generalize nbT zs k = x at *
  have e3 : ¬ (nbE zs k : Int) < (n : Int) := by omega
  clear q4
  rw [hW0] at H29
  clear hW0 q1 q2
  generalize zs.getD k 0 = z at *
  generalize nbE zs k = E at *
  clear hc hc0 hbl hbl0 hPO b0 hB
  go_enter Try.func17, Try.ntmps17
  go_wp2_with (first | (go_at_call 26; with_reducible refine Calls.mono (H26.out _) ?_; rintro e w1 ⟨rfl, rfl⟩) | (go_at_call 28; with_reducible refine Calls.mono (H28.out _) ?_; rintro e w1 ⟨rfl, rfl⟩) | (go_at_call 29; with_reducible refine Calls.mono H29.out ?_; rintro e w1 ⟨rfl, rfl⟩))
  exact bodyPost_ret (results_tok3 rfl _ _ w.heap.size 3 sE x k (.int .i64 (E : Int)) (.int .i64 0) rfl rfl rfl (heap_new _ _)) rfl HF.out

set_option maxRecDepth 100000 in
set_option maxHeartbeats 4000000 in
theorem rtok_let (b off n c : Nat) (zs : List Int) (k : Nat) (w : World) (hB : Pl.isB zs) (hn : n ≤ 16777216) (hcn : n ≤ c) (hz : zs.length = n) (hk : k < n) (hbl : b < w.heap.size) (hc : ∀ j, j < n → w.cell? ⟨b, off + j, none⟩ = some (.int .u8 (zs.getD j 0))) (q1 : isLet (zs.getD k 0) = false) (q2 : isDig (zs.getD k 0) = true) (q3 : ¬ 1099511627776 < nbT zs k) (q4 : nbE zs k < n) (q5 : isLet (zs.getD (nbE zs k) 0) = true) :
    Calls Try.prog 17 #[.slice (some ⟨b, off, none⟩) n c, .int .i64 (k : Int)] w (RtC (tk0 k, k, 182) w) := by
  have HBn := And.intro hB hn
  clear HBn
  obtain ⟨W0, hW0⟩ : ∃ W0, W0 = w.alloc (.cells (tcs 0 sE 0 0) 29) := ⟨_, rfl⟩
  have b0 : Below w.heap.size w W0 := by rw [hW0]; exact below1 _ _
  have hc0 : ∀ j, j < n → W0.cell? ⟨b, off + j, none⟩ = some (.int .u8 (zs.getD j 0)) := fun j hj => (b0.cell (show b < _ from hbl)).trans (hc j hj)
  have hbl0 : b < W0.heap.size := by have := b0.size; omega
  obtain ⟨PO, hPO⟩ : ∃ PO, PO = RtC (tk0 k, k, 182) w := ⟨_, rfl⟩
  rw [← hPO]
  obtain ⟨R, hR⟩ : ∃ R, R = w.heap.size := ⟨_, rfl⟩
  have hck : ∀ o, (w.alloc o).cell? ⟨b, off + k, none⟩ = some (.int .u8 (zs.getD k 0)) := fun o => ((below1 w o).cell (show b < _ from hbl)).trans (hc k hk)
  have hk' : (k : Int) < (n : Int) := by omega
  have hkc : (k : Int) ≤ (c : Int) := by omega
  have hkc2 : ¬ c = k := by omega
  have H29 := hid (rnumber_any b off n c zs k W0 hn hz hk hc0)
  have hE2 : nbE zs k ≤ n := by rw [← hz]; exact unE_le (pasA_le (by omega))
  have H26 := hid (fun u => rletter_any (zs.getD k 0) u)
  have H28 := hid (fun u => rdigit_any (zs.getD k 0) u)
  rw [q1] at H26
  rw [q2] at H28
  have hcE : ∀ o, nbE zs k < n → (w.alloc o).cell? ⟨b, off + nbE zs k, none⟩ = some (.int .u8 (zs.getD (nbE zs k) 0)) := fun o hj => ((below1 w o).cell (show b < _ from hbl)).trans (hc _ hj)
  have HF : Hid (PO (.returned (.tuple #[.agg (tcs 0 sE 0 0), .int .i64 (k : Int), .int .i64 182])) (w.alloc (.cells (tcs 0 sE 0 0) 29))) := by
    rw [hPO]
    exact ⟨rfl, below1 _ _⟩
  rw [show rnb zs k = nbT zs k from if_neg q3] at H29
  generalize nbT zs k = x at *
  have e3 : (nbE zs k : Int) < (n : Int) := by omega
  have hcF := fun o => hcE o q4
  have H26b := hid (fun u => rletter_any (zs.getD (nbE zs k) 0) u)
  have H28b := hid (fun u => rdigit_any (zs.getD (nbE zs k) 0) u)
  clear hcE
  generalize zs.getD (nbE zs k) 0 = y at *
  rw [q5] at H26b
  clear q5
  rw [hW0] at H29
  clear hW0 q1 q2
  generalize zs.getD k 0 = z at *
  generalize nbE zs k = E at *
  clear hc hc0 hbl hbl0 hPO b0 hB
  go_enter Try.func17, Try.ntmps17
  go_wp2_with (first | (go_at_call 26; with_reducible refine Calls.mono (H26.out _) ?_; rintro e w1 ⟨rfl, rfl⟩) | (go_at_call 28; with_reducible refine Calls.mono (H28.out _) ?_; rintro e w1 ⟨rfl, rfl⟩) | (go_at_call 29; with_reducible refine Calls.mono H29.out ?_; rintro e w1 ⟨rfl, rfl⟩) | (go_at_call 26; with_reducible refine Calls.mono (H26b.out _) ?_; rintro e w1 ⟨rfl, rfl⟩) | (go_at_call 28; with_reducible refine Calls.mono (H28b.out _) ?_; rintro e w1 ⟨rfl, rfl⟩))
  exact bodyPost_ret (results_tok3 rfl _ _ w.heap.size 0 sE 0 0 (.int .i64 (k : Int)) (.int .i64 182) rfl rfl rfl (heap_new _ _)) rfl HF.out

set_option maxRecDepth 100000 in
set_option maxHeartbeats 4000000 in
theorem rtok_dig (b off n c : Nat) (zs : List Int) (k : Nat) (w : World) (hB : Pl.isB zs) (hn : n ≤ 16777216) (hcn : n ≤ c) (hz : zs.length = n) (hk : k < n) (hbl : b < w.heap.size) (hc : ∀ j, j < n → w.cell? ⟨b, off + j, none⟩ = some (.int .u8 (zs.getD j 0))) (q1 : isLet (zs.getD k 0) = false) (q2 : isDig (zs.getD k 0) = true) (q3 : ¬ 1099511627776 < nbT zs k) (q4 : nbE zs k < n) (q5 : isLet (zs.getD (nbE zs k) 0) = false) (q6 : isDig (zs.getD (nbE zs k) 0) = true) :
    Calls Try.prog 17 #[.slice (some ⟨b, off, none⟩) n c, .int .i64 (k : Int)] w (RtC (tk0 k, k, 182) w) := by
  have HBn := And.intro hB hn
  clear HBn
  obtain ⟨W0, hW0⟩ : ∃ W0, W0 = w.alloc (.cells (tcs 0 sE 0 0) 29) := ⟨_, rfl⟩
  have b0 : Below w.heap.size w W0 := by rw [hW0]; exact below1 _ _
  have hc0 : ∀ j, j < n → W0.cell? ⟨b, off + j, none⟩ = some (.int .u8 (zs.getD j 0)) := fun j hj => (b0.cell (show b < _ from hbl)).trans (hc j hj)
  have hbl0 : b < W0.heap.size := by have := b0.size; omega
  obtain ⟨PO, hPO⟩ : ∃ PO, PO = RtC (tk0 k, k, 182) w := ⟨_, rfl⟩
  rw [← hPO]
  obtain ⟨R, hR⟩ : ∃ R, R = w.heap.size := ⟨_, rfl⟩
  have hck : ∀ o, (w.alloc o).cell? ⟨b, off + k, none⟩ = some (.int .u8 (zs.getD k 0)) := fun o => ((below1 w o).cell (show b < _ from hbl)).trans (hc k hk)
  have hk' : (k : Int) < (n : Int) := by omega
  have hkc : (k : Int) ≤ (c : Int) := by omega
  have hkc2 : ¬ c = k := by omega
  have H29 := hid (rnumber_any b off n c zs k W0 hn hz hk hc0)
  have hE2 : nbE zs k ≤ n := by rw [← hz]; exact unE_le (pasA_le (by omega))
  have H26 := hid (fun u => rletter_any (zs.getD k 0) u)
  have H28 := hid (fun u => rdigit_any (zs.getD k 0) u)
  rw [q1] at H26
  rw [q2] at H28
  have hcE : ∀ o, nbE zs k < n → (w.alloc o).cell? ⟨b, off + nbE zs k, none⟩ = some (.int .u8 (zs.getD (nbE zs k) 0)) := fun o hj => ((below1 w o).cell (show b < _ from hbl)).trans (hc _ hj)
  have HF : Hid (PO (.returned (.tuple #[.agg (tcs 0 sE 0 0), .int .i64 (k : Int), .int .i64 182])) (w.alloc (.cells (tcs 0 sE 0 0) 29))) := by
    rw [hPO]
    exact ⟨rfl, below1 _ _⟩
  rw [show rnb zs k = nbT zs k from if_neg q3] at H29
  generalize nbT zs k = x at *
  have e3 : (nbE zs k : Int) < (n : Int) := by omega
  have hcF := fun o => hcE o q4
  have H26b := hid (fun u => rletter_any (zs.getD (nbE zs k) 0) u)
  have H28b := hid (fun u => rdigit_any (zs.getD (nbE zs k) 0) u)
  clear hcE
  generalize zs.getD (nbE zs k) 0 = y at *
  rw [q5] at H26b
  rw [q6] at H28b
  clear q5 q6
  rw [hW0] at H29
  clear hW0 q1 q2
  generalize zs.getD k 0 = z at *
  generalize nbE zs k = E at *
  clear hc hc0 hbl hbl0 hPO b0 hB
  go_enter Try.func17, Try.ntmps17
  go_wp2_with (first | (go_at_call 26; with_reducible refine Calls.mono (H26.out _) ?_; rintro e w1 ⟨rfl, rfl⟩) | (go_at_call 28; with_reducible refine Calls.mono (H28.out _) ?_; rintro e w1 ⟨rfl, rfl⟩) | (go_at_call 29; with_reducible refine Calls.mono H29.out ?_; rintro e w1 ⟨rfl, rfl⟩) | (go_at_call 26; with_reducible refine Calls.mono (H26b.out _) ?_; rintro e w1 ⟨rfl, rfl⟩) | (go_at_call 28; with_reducible refine Calls.mono (H28b.out _) ?_; rintro e w1 ⟨rfl, rfl⟩))
  exact bodyPost_ret (results_tok3 rfl _ _ w.heap.size 0 sE 0 0 (.int .i64 (k : Int)) (.int .i64 182) rfl rfl rfl (heap_new _ _)) rfl HF.out

set_option maxRecDepth 100000 in
set_option maxHeartbeats 4000000 in
theorem rtok_mid (b off n c : Nat) (zs : List Int) (k : Nat) (w : World) (hB : Pl.isB zs) (hn : n ≤ 16777216) (hcn : n ≤ c) (hz : zs.length = n) (hk : k < n) (hbl : b < w.heap.size) (hc : ∀ j, j < n → w.cell? ⟨b, off + j, none⟩ = some (.int .u8 (zs.getD j 0))) (q1 : isLet (zs.getD k 0) = false) (q2 : isDig (zs.getD k 0) = true) (q3 : ¬ 1099511627776 < nbT zs k) (q4 : nbE zs k < n) (q5 : isLet (zs.getD (nbE zs k) 0) = false) (q6 : isDig (zs.getD (nbE zs k) 0) = false) :
    Calls Try.prog 17 #[.slice (some ⟨b, off, none⟩) n c, .int .i64 (k : Int)] w (RtC (⟨3, [], nbT zs k, k⟩, nbE zs k, 0) w) := by
  have HBn := And.intro hB hn
  clear HBn
  obtain ⟨W0, hW0⟩ : ∃ W0, W0 = w.alloc (.cells (tcs 0 sE 0 0) 29) := ⟨_, rfl⟩
  have b0 : Below w.heap.size w W0 := by rw [hW0]; exact below1 _ _
  have hc0 : ∀ j, j < n → W0.cell? ⟨b, off + j, none⟩ = some (.int .u8 (zs.getD j 0)) := fun j hj => (b0.cell (show b < _ from hbl)).trans (hc j hj)
  have hbl0 : b < W0.heap.size := by have := b0.size; omega
  obtain ⟨PO, hPO⟩ : ∃ PO, PO = RtC (⟨3, [], nbT zs k, k⟩, nbE zs k, 0) w := ⟨_, rfl⟩
  rw [← hPO]
  obtain ⟨R, hR⟩ : ∃ R, R = w.heap.size := ⟨_, rfl⟩
  have hck : ∀ o, (w.alloc o).cell? ⟨b, off + k, none⟩ = some (.int .u8 (zs.getD k 0)) := fun o => ((below1 w o).cell (show b < _ from hbl)).trans (hc k hk)
  have hk' : (k : Int) < (n : Int) := by omega
  have hkc : (k : Int) ≤ (c : Int) := by omega
  have hkc2 : ¬ c = k := by omega
  have H29 := hid (rnumber_any b off n c zs k W0 hn hz hk hc0)
  have hE2 : nbE zs k ≤ n := by rw [← hz]; exact unE_le (pasA_le (by omega))
  have H26 := hid (fun u => rletter_any (zs.getD k 0) u)
  have H28 := hid (fun u => rdigit_any (zs.getD k 0) u)
  rw [q1] at H26
  rw [q2] at H28
  have hcE : ∀ o, nbE zs k < n → (w.alloc o).cell? ⟨b, off + nbE zs k, none⟩ = some (.int .u8 (zs.getD (nbE zs k) 0)) := fun o hj => ((below1 w o).cell (show b < _ from hbl)).trans (hc _ hj)
  have HF : Hid (PO (.returned (.tuple #[.agg (tcs 3 sE (nbT zs k) k), .int .i64 (nbE zs k : Int), .int .i64 0])) (w.alloc (.cells (tcs 3 sE (nbT zs k) k) 29))) := by
    rw [hPO]
    exact ⟨rfl, below1 _ _⟩
  rw [show rnb zs k = nbT zs k from if_neg q3] at H29
  generalize nbT zs k = x at *
  have e3 : (nbE zs k : Int) < (n : Int) := by omega
  have hcF := fun o => hcE o q4
  have H26b := hid (fun u => rletter_any (zs.getD (nbE zs k) 0) u)
  have H28b := hid (fun u => rdigit_any (zs.getD (nbE zs k) 0) u)
  clear hcE
  generalize zs.getD (nbE zs k) 0 = y at *
  rw [q5] at H26b
  rw [q6] at H28b
  clear q5 q6
  rw [hW0] at H29
  clear hW0 q1 q2
  generalize zs.getD k 0 = z at *
  generalize nbE zs k = E at *
  clear hc hc0 hbl hbl0 hPO b0 hB
  go_enter Try.func17, Try.ntmps17
  go_wp2_with (first | (go_at_call 26; with_reducible refine Calls.mono (H26.out _) ?_; rintro e w1 ⟨rfl, rfl⟩) | (go_at_call 28; with_reducible refine Calls.mono (H28.out _) ?_; rintro e w1 ⟨rfl, rfl⟩) | (go_at_call 29; with_reducible refine Calls.mono H29.out ?_; rintro e w1 ⟨rfl, rfl⟩) | (go_at_call 26; with_reducible refine Calls.mono (H26b.out _) ?_; rintro e w1 ⟨rfl, rfl⟩) | (go_at_call 28; with_reducible refine Calls.mono (H28b.out _) ?_; rintro e w1 ⟨rfl, rfl⟩))
  exact bodyPost_ret (results_tok3 rfl _ _ w.heap.size 3 sE x k (.int .i64 (E : Int)) (.int .i64 0) rfl rfl rfl (heap_new _ _)) rfl HF.out

set_option maxRecDepth 100000 in
set_option maxHeartbeats 4000000 in
theorem rtok_close (b off n c : Nat) (zs : List Int) (k : Nat) (w : World) (hB : Pl.isB zs) (hn : n ≤ 16777216) (hcn : n ≤ c) (hz : zs.length = n) (hk : k < n) (hbl : b < w.heap.size) (hc : ∀ j, j < n → w.cell? ⟨b, off + j, none⟩ = some (.int .u8 (zs.getD j 0))) (q1 : zs.getD k 0 = 34) (q2 : (innA 0 zs (k + 1)).2 = 0) :
    Calls Try.prog 17 #[.slice (some ⟨b, off, none⟩) n c, .int .i64 (k : Int)] w (RtC (⟨2, subL zs (k + 1) (innA 0 zs (k + 1)).1, 0, k⟩, (innA 0 zs (k + 1)).1 + 1, 0) w) := by
  have HBn := And.intro hB hn
  clear HBn
  obtain ⟨W0, hW0⟩ : ∃ W0, W0 = w.alloc (.cells (tcs 0 sE 0 0) 29) := ⟨_, rfl⟩
  have b0 : Below w.heap.size w W0 := by rw [hW0]; exact below1 _ _
  have hc0 : ∀ j, j < n → W0.cell? ⟨b, off + j, none⟩ = some (.int .u8 (zs.getD j 0)) := fun j hj => (b0.cell (show b < _ from hbl)).trans (hc j hj)
  have hbl0 : b < W0.heap.size := by have := b0.size; omega
  obtain ⟨PO, hPO⟩ : ∃ PO, PO = RtC (⟨2, subL zs (k + 1) (innA 0 zs (k + 1)).1, 0, k⟩, (innA 0 zs (k + 1)).1 + 1, 0) w := ⟨_, rfl⟩
  rw [← hPO]
  obtain ⟨R, hR⟩ : ∃ R, R = w.heap.size := ⟨_, rfl⟩
  have hck : ∀ o, (w.alloc o).cell? ⟨b, off + k, none⟩ = some (.int .u8 (zs.getD k 0)) := fun o => ((below1 w o).cell (show b < _ from hbl)).trans (hc k hk)
  have hk' : (k : Int) < (n : Int) := by omega
  have hkc : (k : Int) ≤ (c : Int) := by omega
  have hkc2 : ¬ c = k := by omega
  have H30 := hid (rinner_any b off n c zs (k + 1) W0 hn hz hk hc0)
  rw [show ((k + 1 : Nat) : Int) = (k : Int) + 1 by omega] at H30
  have H26 := hid (fun u => rletter_any 34 u)
  have H28 := hid (fun u => rdigit_any 34 u)
  rw [show isLet 34 = false from rfl] at H26
  rw [show isDig 34 = false from rfl] at H28
  rw [q1] at hck
  have hg := innA_ge 0 zs (k + 1)
  have hle := innA_le (o := 0) (zs := zs) (k := k + 1) (by omega)
  have hlt := innA_lt zs (k + 1) 0 (by omega) (by omega)
  rw [show badV (innA 0 zs (k + 1)) = -1 from if_neg (by omega)] at H30
  generalize (innA 0 zs (k + 1)).1 = j at *
  have hcv := conv_cut (c := c) hB hz hc0 hbl0 (k + 1) j hg (by omega)
  have e1 : (k : Int) + 1 ≤ (j : Int) := by omega
  have e2 : (j : Int) ≤ (c : Int) := by omega
  have e3 : ¬ (j : Int) = (n : Int) := by omega
  have e4 : ¬ c = k + 1 := by omega
  have e5 : (k : Int) + 1 ≤ (c : Int) := by omega
  have HF : Hid (PO (.returned (.tuple #[.agg (tcs 2 (strOfNums (subL zs (k + 1) j)) 0 k), .int .i64 ((j : Int) + 1), .int .i64 0])) (w.alloc (.cells (tcs 2 (strOfNums (subL zs (k + 1) j)) 0 k) 29))) := by
    rw [hPO]
    exact ⟨rfl, below1 _ _⟩
  rw [hW0] at H30 hcv
  clear hW0 q1 q2
  generalize strOfNums (subL zs (k + 1) j) = U at *
  clear hc hc0 hbl hbl0 hPO b0 hB
  go_enter Try.func17, Try.ntmps17
  go_wp2_with (first | (go_at_call 26; with_reducible refine Calls.mono (H26.out _) ?_; rintro e w1 ⟨rfl, rfl⟩) | (go_at_call 28; with_reducible refine Calls.mono (H28.out _) ?_; rintro e w1 ⟨rfl, rfl⟩) | (go_at_call 30; with_reducible refine Calls.mono H30.out ?_; rintro e w1 ⟨rfl, rfl⟩))
  exact bodyPost_ret (results_tok3 rfl _ _ w.heap.size 2 U 0 k (.int .i64 ((j : Int) + 1)) (.int .i64 0) rfl rfl rfl (heap_new _ _)) rfl HF.out

set_option maxRecDepth 100000 in
set_option maxHeartbeats 4000000 in
theorem rtok_bad (b off n c : Nat) (zs : List Int) (k : Nat) (w : World) (hB : Pl.isB zs) (hn : n ≤ 16777216) (hcn : n ≤ c) (hz : zs.length = n) (hk : k < n) (hbl : b < w.heap.size) (hc : ∀ j, j < n → w.cell? ⟨b, off + j, none⟩ = some (.int .u8 (zs.getD j 0))) (q1 : zs.getD k 0 = 34) (q2 : (innA 0 zs (k + 1)).2 = 1) :
    Calls Try.prog 17 #[.slice (some ⟨b, off, none⟩) n c, .int .i64 (k : Int)] w (RtC (tk0 (innA 0 zs (k + 1)).1, (innA 0 zs (k + 1)).1, 183) w) := by
  have HBn := And.intro hB hn
  clear HBn
  obtain ⟨W0, hW0⟩ : ∃ W0, W0 = w.alloc (.cells (tcs 0 sE 0 0) 29) := ⟨_, rfl⟩
  have b0 : Below w.heap.size w W0 := by rw [hW0]; exact below1 _ _
  have hc0 : ∀ j, j < n → W0.cell? ⟨b, off + j, none⟩ = some (.int .u8 (zs.getD j 0)) := fun j hj => (b0.cell (show b < _ from hbl)).trans (hc j hj)
  have hbl0 : b < W0.heap.size := by have := b0.size; omega
  obtain ⟨PO, hPO⟩ : ∃ PO, PO = RtC (tk0 (innA 0 zs (k + 1)).1, (innA 0 zs (k + 1)).1, 183) w := ⟨_, rfl⟩
  rw [← hPO]
  obtain ⟨R, hR⟩ : ∃ R, R = w.heap.size := ⟨_, rfl⟩
  have hck : ∀ o, (w.alloc o).cell? ⟨b, off + k, none⟩ = some (.int .u8 (zs.getD k 0)) := fun o => ((below1 w o).cell (show b < _ from hbl)).trans (hc k hk)
  have hk' : (k : Int) < (n : Int) := by omega
  have hkc : (k : Int) ≤ (c : Int) := by omega
  have hkc2 : ¬ c = k := by omega
  have H30 := hid (rinner_any b off n c zs (k + 1) W0 hn hz hk hc0)
  rw [show ((k + 1 : Nat) : Int) = (k : Int) + 1 by omega] at H30
  have H26 := hid (fun u => rletter_any 34 u)
  have H28 := hid (fun u => rdigit_any 34 u)
  rw [show isLet 34 = false from rfl] at H26
  rw [show isDig 34 = false from rfl] at H28
  rw [q1] at hck
  have hg := innA_ge 0 zs (k + 1)
  have hle := innA_le (o := 0) (zs := zs) (k := k + 1) (by omega)
  rw [show badV (innA 0 zs (k + 1)) = ((innA 0 zs (k + 1)).1 : Int) from if_pos q2] at H30
  generalize (innA 0 zs (k + 1)).1 = j at *
  have e1 : (0 : Int) ≤ (j : Int) := by omega
  have HF : Hid (PO (.returned (.tuple #[.agg (tcs 0 sE 0 0), .int .i64 (j : Int), .int .i64 183])) (w.alloc (.cells (tcs 0 sE 0 0) 29))) := by
    rw [hPO]
    exact ⟨rfl, below1 _ _⟩
  rw [hW0] at H30
  clear hW0 q1 q2
  clear hc hc0 hbl hbl0 hPO b0 hB
  go_enter Try.func17, Try.ntmps17
  go_wp2_with (first | (go_at_call 26; with_reducible refine Calls.mono (H26.out _) ?_; rintro e w1 ⟨rfl, rfl⟩) | (go_at_call 28; with_reducible refine Calls.mono (H28.out _) ?_; rintro e w1 ⟨rfl, rfl⟩) | (go_at_call 30; with_reducible refine Calls.mono H30.out ?_; rintro e w1 ⟨rfl, rfl⟩))
  exact bodyPost_ret (results_tok3 rfl _ _ w.heap.size 0 sE 0 0 (.int .i64 (j : Int)) (.int .i64 183) rfl rfl rfl (heap_new _ _)) rfl HF.out

set_option maxRecDepth 100000 in
set_option maxHeartbeats 4000000 in
theorem rtok_open (b off n c : Nat) (zs : List Int) (k : Nat) (w : World) (hB : Pl.isB zs) (hn : n ≤ 16777216) (hcn : n ≤ c) (hz : zs.length = n) (hk : k < n) (hbl : b < w.heap.size) (hc : ∀ j, j < n → w.cell? ⟨b, off + j, none⟩ = some (.int .u8 (zs.getD j 0))) (q1 : zs.getD k 0 = 34) (q2 : (innA 0 zs (k + 1)).2 = 2) :
    Calls Try.prog 17 #[.slice (some ⟨b, off, none⟩) n c, .int .i64 (k : Int)] w (RtC (tk0 k, k, 183) w) := by
  have HBn := And.intro hB hn
  clear HBn
  obtain ⟨W0, hW0⟩ : ∃ W0, W0 = w.alloc (.cells (tcs 0 sE 0 0) 29) := ⟨_, rfl⟩
  have b0 : Below w.heap.size w W0 := by rw [hW0]; exact below1 _ _
  have hc0 : ∀ j, j < n → W0.cell? ⟨b, off + j, none⟩ = some (.int .u8 (zs.getD j 0)) := fun j hj => (b0.cell (show b < _ from hbl)).trans (hc j hj)
  have hbl0 : b < W0.heap.size := by have := b0.size; omega
  obtain ⟨PO, hPO⟩ : ∃ PO, PO = RtC (tk0 k, k, 183) w := ⟨_, rfl⟩
  rw [← hPO]
  obtain ⟨R, hR⟩ : ∃ R, R = w.heap.size := ⟨_, rfl⟩
  have hck : ∀ o, (w.alloc o).cell? ⟨b, off + k, none⟩ = some (.int .u8 (zs.getD k 0)) := fun o => ((below1 w o).cell (show b < _ from hbl)).trans (hc k hk)
  have hk' : (k : Int) < (n : Int) := by omega
  have hkc : (k : Int) ≤ (c : Int) := by omega
  have hkc2 : ¬ c = k := by omega
  have H30 := hid (rinner_any b off n c zs (k + 1) W0 hn hz hk hc0)
  rw [show ((k + 1 : Nat) : Int) = (k : Int) + 1 by omega] at H30
  have H26 := hid (fun u => rletter_any 34 u)
  have H28 := hid (fun u => rdigit_any 34 u)
  rw [show isLet 34 = false from rfl] at H26
  rw [show isDig 34 = false from rfl] at H28
  rw [q1] at hck
  have hg := innA_ge 0 zs (k + 1)
  have hle := innA_le (o := 0) (zs := zs) (k := k + 1) (by omega)
  have he := innA_end2 zs (k + 1) 0 (by omega) q2
  rw [show badV (innA 0 zs (k + 1)) = -1 from if_neg (by omega), he, hz] at H30
  have HF : Hid (PO (.returned (.tuple #[.agg (tcs 0 sE 0 0), .int .i64 (k : Int), .int .i64 183])) (w.alloc (.cells (tcs 0 sE 0 0) 29))) := by
    rw [hPO]
    exact ⟨rfl, below1 _ _⟩
  rw [hW0] at H30
  clear hW0 q1 q2 he hg hle
  clear hc hc0 hbl hbl0 hPO b0 hB
  go_enter Try.func17, Try.ntmps17
  go_wp2_with (first | (go_at_call 26; with_reducible refine Calls.mono (H26.out _) ?_; rintro e w1 ⟨rfl, rfl⟩) | (go_at_call 28; with_reducible refine Calls.mono (H28.out _) ?_; rintro e w1 ⟨rfl, rfl⟩) | (go_at_call 30; with_reducible refine Calls.mono H30.out ?_; rintro e w1 ⟨rfl, rfl⟩))
  exact bodyPost_ret (results_tok3 rfl _ _ w.heap.size 0 sE 0 0 (.int .i64 (k : Int)) (.int .i64 183) rfl rfl rfl (heap_new _ _)) rfl HF.out

theorem inn_two : ∀ (o : Nat) (l : List Int), (inn o l).2 = 0 ∨ (inn o l).2 = 1 ∨ (inn o l).2 = 2
  | _, [] => .inr (.inr rfl)
  | o, z :: r => by
    have h0 := inn_two 0 r
    have h1 := inn_two 1 r
    have h2 := inn_two 2 r
    have ho := inn_two o r
    simp only [inn]
    split
    · exact h1
    split
    · exact h0
    split
    · exact ho
    split
    · exact .inl rfl
    split
    · exact h2
    · exact .inr (.inl rfl)
theorem rtoken_any (b off n c : Nat) (zs : List Int) (k : Nat) (w : World) (hB : Pl.isB zs) (hn : n ≤ 16777216) (hcn : n ≤ c) (hz : zs.length = n) (hk : k < n) (hbl : b < w.heap.size) (hc : ∀ j, j < n → w.cell? ⟨b, off + j, none⟩ = some (.int .u8 (zs.getD j 0))) :
    Calls Try.prog 17 #[.slice (some ⟨b, off, none⟩) n c, .int .i64 (k : Int)] w (RtC (tokA zs k) w) := by
  unfold tokA
  cases q1 : isLet (zs.getD k 0) with
  | true =>
    rw [if_pos rfl]
    exact rtok_word b off n c zs k w hB hn hcn hz hk hbl hc q1
  | false =>
    rw [if_neg (by decide)]
    cases q2 : isDig (zs.getD k 0) with
    | true =>
      rw [if_pos rfl]
      have hE2 : nbE zs k ≤ n := by rw [← hz]; exact unE_le (pasA_le (by omega))
      by_cases q3 : 1099511627776 < nbT zs k
      · rw [if_pos (.inl q3)]
        exact rtok_big b off n c zs k w hB hn hcn hz hk hbl hc q1 q2 q3
      by_cases q4 : nbE zs k = n
      · rw [if_neg (by rw [wdAt_end (by omega)]; intro h; rcases h with h | h; exact q3 h; cases h)]
        exact rtok_end b off n c zs k w hB hn hcn hz hk hbl hc q1 q2 q3 q4
      cases q5 : isLet (zs.getD (nbE zs k) 0) with
      | true =>
        rw [if_pos (.inr (by rw [wdAt_lt (by omega)]; unfold isWd; rw [q5]; rfl))]
        exact rtok_let b off n c zs k w hB hn hcn hz hk hbl hc q1 q2 q3 (by omega) q5
      | false =>
        cases q6 : isDig (zs.getD (nbE zs k) 0) with
        | true =>
          rw [if_pos (.inr (by rw [wdAt_lt (by omega)]; unfold isWd; rw [q5, q6]; rfl))]
          exact rtok_dig b off n c zs k w hB hn hcn hz hk hbl hc q1 q2 q3 (by omega) q5 q6
        | false =>
          rw [if_neg (by rw [wdAt_lt (by omega)]; unfold isWd; rw [q5, q6]; intro h; rcases h with h | h; exact q3 h; cases h)]
          exact rtok_mid b off n c zs k w hB hn hcn hz hk hbl hc q1 q2 q3 (by omega) q5 q6
    | false =>
      rw [if_neg (by decide)]
      by_cases q3 : zs.getD k 0 = 34
      · rw [if_pos q3]
        rcases inn_two 0 (zs.drop (k + 1)) with h | h | h
        · have h' : (innA 0 zs (k + 1)).2 = 0 := h
          rw [if_pos h']
          exact rtok_close b off n c zs k w hB hn hcn hz hk hbl hc q3 h'
        · have h' : (innA 0 zs (k + 1)).2 = 1 := h
          rw [if_neg (by omega), if_pos h']
          exact rtok_bad b off n c zs k w hB hn hcn hz hk hbl hc q3 h'
        · have h' : (innA 0 zs (k + 1)).2 = 2 := h
          rw [if_neg (by omega), if_neg (by omega)]
          exact rtok_open b off n c zs k w hB hn hcn hz hk hbl hc q3 h'
      · rw [if_neg q3]
        cases q4 : isMk (zs.getD k 0) with
        | true =>
          rw [if_pos rfl]
          exact rtok_mark b off n c zs k w hB hn hcn hz hk hbl hc q1 q2 q3 q4
        | false =>
          rw [if_neg (by decide)]
          exact rtok_none b off n c zs k w hB hn hcn hz hk hbl hc q1 q2 q3 q4

end Go.Proofs.Ytoifmiloaefanaa
