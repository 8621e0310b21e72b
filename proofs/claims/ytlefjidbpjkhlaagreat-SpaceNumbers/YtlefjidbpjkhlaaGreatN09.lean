import Derived.Test.YtlefjidbpjkhlaaGreatN08
import Derived.Test.YtlefjidbpjkhlaaGreatN00
import Derived.Test.YtlefjidbpjkhlaaGreatN07
namespace Go.Proofs.YtlefjidbpjkhlaaGreat
open Go.RowKit
def sumW (ws : List Int) : Nat := (ws.map Int.toNat).sum
def valK (zs ws : List Int) (k : Nat) : Int := Pl.num ((zs.drop (sumW (ws.take k))).take (ws.getD k 0).toNat)
def vals (zs ws : List Int) : Nat → List Int
 | 0 => []
 | k + 1 => vals zs ws k ++ [valK zs ws k]
def okW (ws : List Int) : Prop := ∀ x ∈ ws, wfB x = true
theorem wf_bd {x : Int} (h : wfB x = true) : 1 ≤ x ∧ x ≤ 8 := by simpa [wfB] using h
theorem length_vals (zs ws : List Int) (k : Nat) : (vals zs ws k).length = k := by
 induction k with
 | zero => rfl
 | succ k ih => simp [vals, ih]
theorem sumW_snoc {ws : List Int} {k : Nat} (h : k < ws.length) : sumW (ws.take (k + 1)) = sumW (ws.take k) + (ws.getD k 0).toNat := by
 rw [take_snoc h, sumW, sumW, List.map_append, List.sum_append]; simp
theorem sumW_part {ws : List Int} {k : Nat} (h : k < ws.length) : sumW (ws.take k) + (ws.getD k 0).toNat ≤ sumW ws := by
 rw [← sumW_snoc h]
 conv => rhs; rw [← List.take_append_drop (k + 1) ws]
 rw [sumW, sumW, List.map_append, List.sum_append]; omega
theorem sumW_le {ws : List Int} (h : okW ws) : sumW ws ≤ 8 * ws.length := by
 induction ws with
 | nil => simp [sumW]
 | cons x r ih =>
  have h1 := wf_bd (h x (by simp))
  have h2 := ih fun g hg => h g (by simp [hg])
  simp only [sumW, List.map_cons, List.sum_cons, List.length_cons] at *
  omega
set_option maxRecDepth 100000 in
set_option maxHeartbeats 1000000 in
theorem Unpack_ok (a a2 : Option Addr) (n c m c2 : Nat) (zs ws : List Int) (w : World) (hm : m ≤ 16777216) (hcap : n ≤ c) (hR : Rd w.heap.size w a n zs) (hR2 : RdI w.heap.size w a2 m ws) (hok : okW ws) (hn : n = sumW ws) (hv : ∀ k, k < m → valK zs ws k ≤ 9223372036854775807) :
  Calls Tryz.prog 143 #[.slice a n c, .slice a2 m c2] w fun e w' => ∃ g, e = .returned (.tuple #[.slice (some ⟨g, 0, none⟩) m m, .int .i64 0]) ∧ w.heap.size ≤ g ∧ Blk .i64 3 w' g (vals zs ws m) ∧ Below w.heap.size w w' := by
 obtain ⟨hl, h3⟩ := hR2
 have HN := hid hn
 have hle := sumW_le hok
 have hn2 : n ≤ 134217728 := by omega
 clear hle hn
 go_enter Tryz.func143, Tryz.ntmps143
 go_wp2
 go_loop [6, 16] (fun s i => ∃ k : Nat, k ≤ m ∧ i = .int .i64 (k : Int) ∧ s = .int .i64 (sumW (ws.take k) : Int)) (fun _ i => m - (intOf i).toNat)
 case atStart => exact ⟨0, Nat.zero_le _, rfl, rfl⟩
 case round =>
  obtain ⟨k, hk, rfl, rfl⟩ := hrel
  by_cases hkm : k < m
  ·obtain ⟨b, off, rfl, hb, hc⟩ := h3.resolve_left (by omega)
   obtain ⟨x, hx⟩ : ∃ x, x = ws.getD k 0 := ⟨_, rfl⟩
   have hmem : ws.getD k 0 ∈ ws := by
    have : k < ws.length := by omega
    simp [this]
   have hck := hok _ hmem
   have hcx := hc k hkm
   have hs := sumW_snoc (ws := ws) (k := k) (by omega)
   have hle := sumW_le (ws := ws.take k) (fun f hf => hok f (List.mem_of_mem_take hf))
   rw [List.length_take] at hle
   rw [← hx] at hcx hck hs
   have HS := hid hs
   obtain ⟨x1, x2⟩ := wf_bd hck
   have hle2 : sumW (ws.take k) ≤ 134217728 := by omega
   clear hs hle hx hmem hc
   generalize sumW (ws.take k) = pl at *
   go_wp2_with (go_at_call 182; refine (widthFits_any x _).mono ?_; rintro e w1 ⟨rfl, rfl⟩)
   go_round
   case rel => exact ⟨k + 1, by omega, by go_num, by rw [HS.out]; congr 1; omega⟩
   case measure => simp [intOf]; omega
  ·have e : ws.take k = ws := List.take_of_length_le (by omega)
   rw [e, ← HN.out]
   have hmk := make_i64 m (by omega)
   have hB0 := hid (Blk.new (k := .i64) (e := 3) w (zeros m))
   have hb0 : Below w.heap.size w (w.alloc (.cells ((zeros m).map (Value.int .i64)).toArray 3)) := (Below.refl _ _).alloc (Nat.le_refl _) _
   have Hb0 := hid hb0
   clear e hb0
   go_wp2
   clear hkm hk
   go_loopw [10, 36] (fun s i wt => ∃ k : Nat, k ≤ m ∧ i = .int .i64 (k : Int) ∧ s = .int .i64 (sumW (ws.take k) : Int) ∧ Blk .i64 3 wt w.heap.size (vals zs ws k ++ zeros (m - k)) ∧ Below w.heap.size w wt) (fun _ i _ => m - (intOf i).toNat)
   case atStart => exact ⟨0, Nat.zero_le _, rfl, rfl, hB0.out, Hb0.out⟩
   case round =>
    obtain ⟨k, hk, rfl, rfl, hBk, hbt⟩ := hrel
    have HB := hid hBk
    clear hBk
    by_cases hkm : k < m
    ·obtain ⟨b2, off2, rfl, hb2, hc2⟩ := h3.resolve_left (by omega)
     have hmem : ws.getD k 0 ∈ ws := by
      have : k < ws.length := by omega
      simp [this]
     have hck := hok _ hmem
     obtain ⟨x1, x2⟩ := wf_bd hck
     obtain ⟨X, hX⟩ := Int.eq_ofNat_of_zero_le (show 0 ≤ ws.getD k 0 by omega)
     have hcx := (hbt.cell (p := ⟨b2, off2 + k, none⟩) (by exact hb2)).trans (hc2 k hkm)
     have hs := sumW_snoc (ws := ws) (k := k) (by omega)
     have hp := sumW_part (ws := ws) (k := k) (by omega)
     have hvk := hv k hkm
     have hv0 : 0 ≤ valK zs ws k := Pl.num_nonneg (Pl.isB_take (Pl.isB_drop hR.2.1 _) _)
     obtain ⟨b, off, rfl, hb, hc⟩ := hR.2.2.resolve_left (by rw [HN.out]; omega)
     rw [hX] at hcx hs hp x1 x2
     rw [← HN.out] at hp
     simp only [Int.toNat_natCast] at hs hp
     have hg := getNumber_any b (off + sumW (ws.take k)) X (c - sumW (ws.take k)) ((zs.drop (sumW (ws.take k))).take X) wr (by omega) (by rw [List.length_take, List.length_drop, hR.1]; omega) (Pl.isB_take (Pl.isB_drop hR.2.1 _) _)
      (fun t ht => (hbt.cell (by exact hb)).trans (part_cells hc _ _ hp t ht))
     have hval : Pl.num ((zs.drop (sumW (ws.take k))).take X) = valK zs ws k := by unfold valK; rw [hX]; rfl
     rw [hval] at hg
     have HG := hid hg
     have HS := hid hs
     have hlen : (vals zs ws k ++ zeros (m - k)).length = m := by rw [List.length_append, length_zeros, length_vals]; omega
     have HL := hid hlen
     have hck2 := HB.out.cell k (by omega)
     have hfk := HB.out.frozen k
     generalize (vals zs ws k ++ zeros (m - k)).getD k 0 = old at *
     clear hval hs hg hck hmem hX hc2 hc hv hlen
     generalize sumW (ws.take k) = pl at *
     generalize hVV : valK zs ws k = V at *
     have HV := hid hVV
     clear hVV
     have hne : ¬ c = pl := by omega
     have hgt : ¬ 9223372036854775807 < V := by omega
     go_wp2_with fail
     refine Calls.mono HG.out ?_
     rintro e w1 ⟨rfl, rfl⟩
     go_wp2
     go_roundw
     case rel =>
      refine ⟨k + 1, by omega, by go_num, by rw [HS.out]; rfl, ?_, hbt.setCell (Nat.le_refl _) _⟩
      have h := HB.out.set k V
      rw [show (vals zs ws k ++ zeros (m - k)).set k V = vals zs ws (k + 1) ++ zeros (m - (k + 1)) from ?_] at h
      ·exact h
      ·rw [vals, HV.out, List.set_append_right _ _ (by rw [length_vals]; exact Nat.le_refl _), length_vals, Nat.sub_self, show m - k = (m - (k + 1)) + 1 by omega]
       simp [zeros, List.replicate_succ]
     case measure => simp [intOf]; omega
    ·have e : k = m := by omega
     subst e
     rw [Nat.sub_self, show vals zs ws k ++ zeros 0 = vals zs ws k from by simp [zeros]] at HB
     go_wp2
     go_ret2
     exact ⟨w.heap.size, rfl, Nat.le_refl _, HB.out, hbt⟩
open Go.RowKit
def perr (E : Int) : Value := .tuple #[.slice none 0 0, .int .i64 E]
set_option maxRecDepth 100000 in
set_option maxHeartbeats 1000000 in
theorem Unpack_size (a a2 : Option Addr) (n c m c2 : Nat) (ws : List Int) (w : World) (hm : m ≤ 16777216) (hR2 : RdI w.heap.size w a2 m ws) (hok : okW ws) (hbad : n ≠ sumW ws) :
  Calls Tryz.prog 143 #[.slice a n c, .slice a2 m c2] w fun e w' => e = .returned (perr 12) ∧ w' = w := by
 obtain ⟨hl, h3⟩ := hR2
 go_enter Tryz.func143, Tryz.ntmps143
 go_wp2
 go_loop [6, 16] (fun s i => ∃ k : Nat, k ≤ m ∧ i = .int .i64 (k : Int) ∧ s = .int .i64 (sumW (ws.take k) : Int)) (fun _ i => m - (intOf i).toNat)
 case atStart => exact ⟨0, Nat.zero_le _, rfl, rfl⟩
 case round =>
  obtain ⟨k, hk, rfl, rfl⟩ := hrel
  by_cases hkm : k < m
  ·obtain ⟨b, off, rfl, hb, hc⟩ := h3.resolve_left (by omega)
   obtain ⟨x, hx⟩ : ∃ x, x = ws.getD k 0 := ⟨_, rfl⟩
   have hmem : ws.getD k 0 ∈ ws := by
    have : k < ws.length := by omega
    simp [this]
   have hck := hok _ hmem
   have hcx := hc k hkm
   have hs := sumW_snoc (ws := ws) (k := k) (by omega)
   have hle := sumW_le (ws := ws.take k) (fun f hf => hok f (List.mem_of_mem_take hf))
   rw [List.length_take] at hle
   rw [← hx] at hcx hck hs
   have HS := hid hs
   obtain ⟨x1, x2⟩ := wf_bd hck
   have hle2 : sumW (ws.take k) ≤ 134217728 := by omega
   clear hs hle hx hmem hc hbad
   generalize sumW (ws.take k) = pl at *
   go_wp2_with (go_at_call 182; refine (widthFits_any x _).mono ?_; rintro e w1 ⟨rfl, rfl⟩)
   go_round
   case rel => exact ⟨k + 1, by omega, by go_num, by rw [HS.out]; congr 1; omega⟩
   case measure => simp [intOf]; omega
  ·have e : ws.take k = ws := List.take_of_length_le (by omega)
   rw [e]
   have hne : ((n : Int) != (sumW ws : Int)) = true := by simp; omega
   clear e
   generalize sumW ws = T at *
   go_wp2
   go_ret2
   exact ⟨rfl, rfl⟩
set_option maxRecDepth 100000 in
set_option maxHeartbeats 1000000 in
theorem Unpack_value (a a2 : Option Addr) (n c m c2 : Nat) (zs ws : List Int) (w : World) (hm : m ≤ 16777216) (hcap : n ≤ c) (hR : Rd w.heap.size w a n zs) (hR2 : RdI w.heap.size w a2 m ws) (hok : okW ws) (hn : n = sumW ws) (hbad : ∃ k, k < m ∧ 9223372036854775807 < valK zs ws k) :
  Calls Tryz.prog 143 #[.slice a n c, .slice a2 m c2] w fun e w' => e = .returned (perr 11) ∧ Below w.heap.size w w' := by
 obtain ⟨hl, h3⟩ := hR2
 have HN := hid hn
 have HBAD := hid hbad
 have hle := sumW_le hok
 have hn2 : n ≤ 134217728 := by omega
 clear hle hn hbad
 go_enter Tryz.func143, Tryz.ntmps143
 go_wp2
 go_loop [6, 16] (fun s i => ∃ k : Nat, k ≤ m ∧ i = .int .i64 (k : Int) ∧ s = .int .i64 (sumW (ws.take k) : Int)) (fun _ i => m - (intOf i).toNat)
 case atStart => exact ⟨0, Nat.zero_le _, rfl, rfl⟩
 case round =>
  obtain ⟨k, hk, rfl, rfl⟩ := hrel
  by_cases hkm : k < m
  ·obtain ⟨b, off, rfl, hb, hc⟩ := h3.resolve_left (by omega)
   obtain ⟨x, hx⟩ : ∃ x, x = ws.getD k 0 := ⟨_, rfl⟩
   have hmem : ws.getD k 0 ∈ ws := by
    have : k < ws.length := by omega
    simp [this]
   have hck := hok _ hmem
   have hcx := hc k hkm
   have hs := sumW_snoc (ws := ws) (k := k) (by omega)
   have hle := sumW_le (ws := ws.take k) (fun f hf => hok f (List.mem_of_mem_take hf))
   rw [List.length_take] at hle
   rw [← hx] at hcx hck hs
   have HS := hid hs
   obtain ⟨x1, x2⟩ := wf_bd hck
   have hle2 : sumW (ws.take k) ≤ 134217728 := by omega
   clear hs hle hx hmem hc
   generalize sumW (ws.take k) = pl at *
   go_wp2_with (go_at_call 182; refine (widthFits_any x _).mono ?_; rintro e w1 ⟨rfl, rfl⟩)
   go_round
   case rel => exact ⟨k + 1, by omega, by go_num, by rw [HS.out]; congr 1; omega⟩
   case measure => simp [intOf]; omega
  ·have e : ws.take k = ws := List.take_of_length_le (by omega)
   rw [e, ← HN.out]
   have hmk := make_i64 m (by omega)
   have hB0 := hid (Blk.new (k := .i64) (e := 3) w (zeros m))
   have hb0 : Below w.heap.size w (w.alloc (.cells ((zeros m).map (Value.int .i64)).toArray 3)) := (Below.refl _ _).alloc (Nat.le_refl _) _
   have Hb0 := hid hb0
   clear e hb0
   go_wp2
   clear hkm hk
   go_loopw [10, 36] (fun s i wt => ∃ (k : Nat) (ys : List Int), k ≤ m ∧ i = .int .i64 (k : Int) ∧ s = .int .i64 (sumW (ws.take k) : Int) ∧ Blk .i64 3 wt w.heap.size ys ∧ ys.length = m ∧ Below w.heap.size w wt ∧ (∀ j, j < k → valK zs ws j ≤ 9223372036854775807)) (fun _ i _ => m - (intOf i).toNat)
   case atStart => exact ⟨0, zeros m, Nat.zero_le _, rfl, rfl, hB0.out, length_zeros m, Hb0.out, fun j h => by omega⟩
   case round =>
    obtain ⟨k, ys, hk, rfl, rfl, hBk, hyl, hbt, hvs⟩ := hrel
    have HB := hid hBk
    have HV := hid hvs
    clear hBk hvs
    by_cases hkm : k < m
    ·obtain ⟨b2, off2, rfl, hb2, hc2⟩ := h3.resolve_left (by omega)
     have hmem : ws.getD k 0 ∈ ws := by
      have : k < ws.length := by omega
      simp [this]
     have hck := hok _ hmem
     obtain ⟨x1, x2⟩ := wf_bd hck
     obtain ⟨X, hX⟩ := Int.eq_ofNat_of_zero_le (show 0 ≤ ws.getD k 0 by omega)
     have hcx := (hbt.cell (p := ⟨b2, off2 + k, none⟩) (by exact hb2)).trans (hc2 k hkm)
     have hs := sumW_snoc (ws := ws) (k := k) (by omega)
     have hp := sumW_part (ws := ws) (k := k) (by omega)
     have hv0 : 0 ≤ valK zs ws k := Pl.num_nonneg (Pl.isB_take (Pl.isB_drop hR.2.1 _) _)
     obtain ⟨b, off, rfl, hb, hc⟩ := hR.2.2.resolve_left (by rw [HN.out]; omega)
     rw [hX] at hcx hs hp x1 x2
     rw [← HN.out] at hp
     simp only [Int.toNat_natCast] at hs hp
     have hg := getNumber_any b (off + sumW (ws.take k)) X (c - sumW (ws.take k)) ((zs.drop (sumW (ws.take k))).take X) wr (by omega) (by rw [List.length_take, List.length_drop, hR.1]; omega) (Pl.isB_take (Pl.isB_drop hR.2.1 _) _)
      (fun t ht => (hbt.cell (by exact hb)).trans (part_cells hc _ _ hp t ht))
     have hval : Pl.num ((zs.drop (sumW (ws.take k))).take X) = valK zs ws k := by unfold valK; rw [hX]; rfl
     rw [hval] at hg
     have HG := hid hg
     have HS := hid hs
     have HL := hid hyl
     have hck2 := HB.out.cell k (by omega)
     have hfk := HB.out.frozen k
     generalize ys.getD k 0 = old at *
     clear hval hs hg hck hmem hX hc2 hc hyl
     generalize sumW (ws.take k) = pl at *
     generalize hVV : valK zs ws k = V at *
     have HVK := hid hVV
     clear hVV
     have hne : ¬ c = pl := by omega
     by_cases hgt : 9223372036854775807 < V
     ·go_wp2_with fail
      refine Calls.mono HG.out ?_
      rintro e w1 ⟨rfl, rfl⟩
      go_wp2
      go_ret2
      exact ⟨rfl, hbt⟩
     ·go_wp2_with fail
      refine Calls.mono HG.out ?_
      rintro e w1 ⟨rfl, rfl⟩
      go_wp2
      go_roundw
      case rel =>
       refine ⟨k + 1, ys.set k V, by omega, by go_num, by rw [HS.out]; rfl, HB.out.set k V, by rw [List.length_set]; exact HL.out, hbt.setCell (Nat.le_refl _) _, fun j hj => ?_⟩
       by_cases e : j = k
       ·subst e; rw [HVK.out]; omega
       ·exact HV.out j (by omega)
      case measure => simp [intOf]; omega
    ·obtain ⟨j, hj, hbig⟩ := HBAD.out
     have := HV.out j (by omega)
     omega
def OwnI (w : World) (g n cap : Nat) (zs : List Int) : Prop := w.ownsRow g 3 1 (.slice (some ⟨g, 0, none⟩) n cap) n (zs.map (Value.int .i64))
theorem OwnI.len {w : World} {g n cap : Nat} {zs : List Int} (h : OwnI w g n cap zs) : zs.length = n := by simpa using h.1
open Go.RowKit
theorem packed_any (a : Option Addr) (m c : Nat) (fs : List (Int × Int)) (w : World) (hm : m ≤ 16777216) (hR : RdF w.heap.size w a m fs) (hok : okF fs) :
  Calls Tryz.prog 179 #[.slice a m c] w fun e w' => ∃ g, e = .returned (.slice (some ⟨g, 0, none⟩) (packZ fs).length (packZ fs).length) ∧ w.heap.size ≤ g ∧ Blk .u8 5 w' g (packZ fs) ∧ Below w.heap.size w w' := by
 have H := hid (Pack_ok a m c fs w hm hR hok)
 clear hR hok hm
 generalize hL : (packZ fs).length = L at *
 go_enter Tryz.func179, Tryz.ntmps179
 go_wp2_with fail
 refine Calls.mono H.out ?_
 rintro e w1 ⟨g, rfl, hg, hb, b1⟩
 have FIN := hid (And.intro hg (And.intro hb b1))
 clear hg hb b1 H
 go_wp2
 go_ret
 exact ⟨g, rfl, FIN.out.1, FIN.out.2.1, FIN.out.2.2⟩
theorem fields_any (fr bl : Int) (w : World) : Calls Tryz.prog 268 #[.agg #[.int .i64 fr, .int .i64 bl]] w fun e w' => e = .returned (.slice (some ⟨w.heap.size + 1, 0, none⟩) 2 2) ∧ w' = (w.alloc (.cells #[.int .i64 fr, .int .i64 bl] 148)).alloc (.cells #[.int .i64 3, .int .i64 fr, .int .i64 3, .int .i64 bl] 204) := by
 go_enter Tryz.func268, Tryz.ntmps268
 go_wp2
 go_ret
 refine ⟨by simp, by simp⟩
open Go.RowKit
def slElem : Value → Option (DataW (Nat × Nat) × List MemPlace)
 | .slice none 0 0 => some (.nil, [])
 | .slice (some ⟨g, 0, none⟩) 512 c => some (.held (g, c), [])
 | _ => none
theorem slElem_inv {v : Value} {q : Nat × Nat} {ps : List MemPlace} (h : slElem v = some (.held q, ps)) : v = .slice (some ⟨q.1, 0, none⟩) 512 q.2 := by
 unfold slElem at h
 split at h
 ·cases h
 ·cases h; rfl
 ·cases h
def cntA (a : Nat → Option (Nat × Nat)) : Nat → Nat
 | 0 => 0
 | n + 1 => cntA a n + if (a n).isSome then 1 else 0
theorem cntA_le (a : Nat → Option (Nat × Nat)) (n : Nat) : cntA a n ≤ n := by
 induction n with
 | zero => exact Nat.le_refl _
 | succ n ih => unfold cntA; split <;> omega
structure AM (nb : Nat) (D : DataW (Nat × Nat)) (a : Nat → Option (Nat × Nat)) : Prop where
 tidy : Maps.Tidy D
 cnt : Maps.size D ≤ cntA a nb
 hit : ∀ x q, a x = some q → Maps.has D (.int .i64 (x : Int)) = true ∧ ∀ z, D.atKey (.int .i64 (x : Int)) z = .held q
 miss : ∀ x : Int, (∀ y : Nat, (y : Int) = x → a y = none) → Maps.has D (.int .i64 x) = false
theorem AM.nil (nb : Nat) : AM nb (.map []) (fun _ => none) := ⟨Maps.tidy_empty, Nat.zero_le _, fun x q h => (by cases h), fun _ _ => rfl⟩
def putA (a : Nat → Option (Nat × Nat)) (x : Nat) (q : Nat × Nat) : Nat → Option (Nat × Nat) := fun y => if y = x then some q else a y
theorem cnt_putA (a : Nat → Option (Nat × Nat)) (x : Nat) (q : Nat × Nat) (n : Nat) : cntA (putA a x q) n = cntA a n + if x < n ∧ a x = none then 1 else 0 := by
 induction n with
 | zero => simp [cntA]
 | succ n ih =>
  unfold cntA
  rw [ih]
  by_cases e : n = x
  ·subst e
   have h1 : (putA a n q n).isSome = true := by simp [putA]
   rw [h1]
   cases ha : a n <;> simp
  ·have h1 : putA a x q n = a n := by simp [putA, e]
   rw [h1]
   by_cases h2 : x < n
   ·have h3 : x < n + 1 := by omega
    simp only [h2, h3, true_and]
    omega
   ·have h3 : ¬ x < n + 1 := by omega
    simp only [h2, h3, false_and, if_false]
    omega
theorem AM.put {nb : Nat} {D : DataW (Nat × Nat)} {a : Nat → Option (Nat × Nat)} (h : AM nb D a) (x : Nat) (hx : x < nb) (q : Nat × Nat) : AM nb (D.put (.int .i64 (x : Int)) (.held q)) (putA a x q) := by
 have hk : WideAt.IsKeyLit (.int .i64 (x : Int)) := trivial
 refine ⟨h.tidy.put hk _, ?_, fun y r hr => ?_, fun y hy => ?_⟩
 ·rw [Maps.size_put h.tidy, cnt_putA]
  have hc := h.cnt
  cases ha : a x with
  | none =>
   simp only [hx, true_and, if_true]
   split <;> omega
  | some r =>
   rw [(h.hit x r ha).1]
   simp
   omega
 ·by_cases e : y = x
  ·subst e
   have : q = r := by simpa [putA] using hr
   subst this
   exact ⟨Maps.has_put_same h.tidy.isMap hk _, fun z => Maps.atKey_put_same h.tidy.isMap hk _ z⟩
  ·have hne : (Lit.int .i64 (y : Int)) ≠ .int .i64 (x : Int) := fun q => e (by injection q with _ q; omega)
   have hr' : a y = some r := by simpa [putA, e] using hr
   exact ⟨by rw [Maps.has_put_other hne]; exact (h.hit y r hr').1, fun z => by rw [Maps.atKey_put_other hne]; exact (h.hit y r hr').2 z⟩
 ·have hne : (Lit.int .i64 y) ≠ .int .i64 (x : Int) := fun q => by
   injection q with _ q
   have := hy x q.symm
   simp [putA] at this
  rw [Maps.has_put_other hne]
  refine h.miss y (fun t ht => ?_)
  have := hy t ht
  unfold putA at this
  split at this
  ·cases this
  ·exact this
structure Js where
 life : Nat
 seq : Nat
 used : Nat
 ah : Nat → Option (List Int)
theorem mapB_lt {w : World} {mp n : Nat} {D : DataW (Nat × Nat)} (h : w.ownsMap Tryz.prog 3 slElem mp n D) : mp < w.heap.size := h.lt
theorem mapB_keep {w w' : World} {mp n : Nat} {D : DataW (Nat × Nat)} (h : w.ownsMap Tryz.prog 3 slElem mp n D) (hk : w'.heap[mp]? = w.heap[mp]?) : w'.ownsMap Tryz.prog 3 slElem mp n D := by
 obtain ⟨es, ck, h1, h2⟩ := h
 exact ⟨es, ck, hk.trans h1, h2⟩
structure JqW (Z Zc : Nat → Prop) (w : World) (j c p room nb K fr bl m n : Nat) (D : DataW (Nat × Nat)) (a : Nat → Option (Nat × Nat)) (d : Pd) (s : Js) : Prop where
 cq : Cq Zc w c p room nb K d
 jb : Jb w j c fr bl s.life s.seq s.used (.map (some m))
 mp : w.ownsMap Tryz.prog 3 slElem m n D
 am : AM nb D a
 dat : ∀ x g cp, a x = some (g, cp) → ∃ zs, s.ah x = some zs ∧ Own w g 512 cp zs ∧ Pl.isB zs ∧ x < nb ∧ ¬ Zc g ∧ Z g
 non : ∀ x, a x = none → s.ah x = none
 nj : ¬ Zc j
 nm : ¬ Zc m
 zj : Z j
 zm : Z m
 sub : ∀ k, Zc k → Z k
 sz : n ≤ nb
def Jq (Z : Nat → Prop) (w : World) (j c p room nb K fr bl : Nat) (d : Pd) (s : Js) : Prop := ∃ Zc m n D a, JqW Z Zc w j c p room nb K fr bl m n D a d s
theorem Jb.ne_map {w : World} {j c : Nat} {fr bl life seq used : Int} {mv : Value} {mp n : Nat} {D : DataW (Nat × Nat)} (h : Jb w j c fr bl life seq used mv) (hm : w.ownsMap Tryz.prog 3 slElem mp n D) : j ≠ mp := fun q => by
 obtain ⟨es, ck, h1, _⟩ := hm
 unfold Jb at h
 rw [← q, h] at h1
 cases h1
theorem Own.ne_jb {w : World} {g k cp j c : Nat} {zs : List Int} {fr bl life seq used : Int} {mv : Value} (ho : Own w g k cp zs) (h : Jb w j c fr bl life seq used mv) : g ≠ j := fun q => by
 obtain ⟨cur, hc⟩ := ho.kind
 unfold Jb at h
 rw [q, h] at hc
 simp at hc
theorem Own.ne_mapB {w : World} {g k cp mp n : Nat} {zs : List Int} {D : DataW (Nat × Nat)} (ho : Own w g k cp zs) (hm : w.ownsMap Tryz.prog 3 slElem mp n D) : g ≠ mp := fun q => by
 obtain ⟨es, ck, h1, _⟩ := hm
 obtain ⟨cur, hc⟩ := ho.kind
 rw [q, h1] at hc
 cases hc
theorem JqW.turn {Z Zc Zc' : Nat → Prop} {w w' : World} {j c p room nb K K' fr bl m n : Nat} {D : DataW (Nat × Nat)} {a : Nat → Option (Nat × Nat)} {d d' : Pd} {s : Js} (h : JqW Z Zc w j c p room nb K fr bl m n D a d s) (hc : Cq Zc' w' c p room nb K' d') (hg : Gr Zc Zc' w) (hb : But Zc w w') :
  JqW (fun k => (Z k ∧ k < w.heap.size) ∨ Zc' k) Zc' w' j c p room nb K' fr bl m n D a d' s where
 cq := hc
 jb := (hb.block j h.jb.lt h.nj).trans h.jb
 mp := mapB_keep h.mp (hb.block m (mapB_lt h.mp) h.nm)
 am := h.am
 dat := fun x g cp hx => by
  obtain ⟨zs, h1, h2, h3, h4, h5, h6⟩ := h.dat x g cp hx
  exact ⟨zs, h1, h2.keep (hb.block g h2.lt h5), h3, h4, fun q => h5 (hg g h2.lt q), .inl ⟨h6, h2.lt⟩⟩
 non := h.non
 nj := fun q => h.nj (hg j h.jb.lt q)
 nm := fun q => h.nm (hg m (mapB_lt h.mp) q)
 zj := .inl ⟨h.zj, h.jb.lt⟩
 zm := .inl ⟨h.zm, mapB_lt h.mp⟩
 sub := fun k q => .inr q
 sz := h.sz
theorem JqW.turn_gr {Z Zc Zc' : Nat → Prop} {w : World} (hs : ∀ k, Zc k → Z k) (hg : Gr Zc Zc' w) : Gr Z (fun k => (Z k ∧ k < w.heap.size) ∨ Zc' k) w := fun k hk q => by
 rcases q with q | q
 ·exact q.1
 ·exact hs k (hg k hk q)
theorem JqW.keep {Z Zc : Nat → Prop} {w w' : World} {j c p room nb K fr bl m n : Nat} {D : DataW (Nat × Nat)} {a : Nat → Option (Nat × Nat)} {d : Pd} {s : Js} (h : JqW Z Zc w j c p room nb K fr bl m n D a d s) (hk : ∀ x, Z x → x < w.heap.size → w'.heap[x]? = w.heap[x]?) (hs : w.heap.size ≤ w'.heap.size) : JqW Z Zc w' j c p room nb K fr bl m n D a d s where
 cq := h.cq.keep (fun x q hx => hk x (h.sub x q) hx) hs
 jb := (hk j h.zj h.jb.lt).trans h.jb
 mp := mapB_keep h.mp (hk m h.zm (mapB_lt h.mp))
 am := h.am
 dat := fun x g cp hx => by
  obtain ⟨zs, h1, h2, h3, h4, h5, h6⟩ := h.dat x g cp hx
  exact ⟨zs, h1, h2.keep (hk g h6 h2.lt), h3, h4, h5, h6⟩
 non := h.non
 nj := h.nj
 nm := h.nm
 zj := h.zj
 zm := h.zm
 sub := h.sub
 sz := h.sz
theorem Jq.keep {Z : Nat → Prop} {w w' : World} {j c p room nb K fr bl : Nat} {d : Pd} {s : Js} (h : Jq Z w j c p room nb K fr bl d s) (hk : ∀ x, Z x → x < w.heap.size → w'.heap[x]? = w.heap[x]?) (hs : w.heap.size ≤ w'.heap.size) : Jq Z w' j c p room nb K fr bl d s := by
 obtain ⟨Zc, m, n, D, a, h⟩ := h
 exact ⟨Zc, m, n, D, a, h.keep hk hs⟩
theorem Jq.below {Z : Nat → Prop} {w w' : World} {j c p room nb K fr bl : Nat} {d : Pd} {s : Js} (h : Jq Z w j c p room nb K fr bl d s) (hb : Below w.heap.size w w') : Jq Z w' j c p room nb K fr bl d s := h.keep (fun x _ h2 => hb.block x h2) hb.size
theorem Jq.but {Z Y : Nat → Prop} {w w' : World} {j c p room nb K fr bl : Nat} {d : Pd} {s : Js} (h : Jq Z w j c p room nb K fr bl d s) (hb : But Y w w') (hy : ∀ k, k < w.heap.size → Z k → ¬ Y k) : Jq Z w' j c p room nb K fr bl d s := h.keep (fun x h1 h2 => hb.block x h2 (hy x h2 h1)) hb.size
theorem Jq.cells {Z : Nat → Prop} {w : World} {j c p room nb K fr bl : Nat} {d : Pd} {s : Js} (h : Jq Z w j c p room nb K fr bl d s) : ∃ mv, Jb w j c fr bl s.life s.seq s.used mv ∧ Z j := by
 obtain ⟨Zc, m, n, D, a, h⟩ := h
 exact ⟨_, h.jb, h.zj⟩
theorem Jq.write {Z : Nat → Prop} {w : World} {j c p room nb K fr bl : Nat} {d : Pd} {s : Js} (h : Jq Z w j c p room nb K fr bl d s) (hl : d.puts.length ≤ 1073741823) (x : Nat) (hx : x < nb) (ad : Option Addr) (cp : Nat) (zs : List Int) (hR : RdN Z w ad 512 zs) :
  Calls Tryz.prog 178 #[.pointer (some ⟨c, 0, none⟩), .int .i64 (x : Int), .slice ad 512 cp] w fun e w' => e = .returned (.int .i64 (d.run1 (.wr x zs)).1) ∧ (∃ Z', Jq Z' w' j c p room nb K fr bl (d.run1 (.wr x zs)).2 s ∧ Gr Z Z' w) ∧ But Z w w' := by
 obtain ⟨Zc, m, n, D, a, h⟩ := h
 refine Calls.mono (h.cq.write hl x hx ad cp zs (hR.mono (fun k _ q => h.sub k q))) ?_
 rintro e w' ⟨rfl, ⟨Zc', q1, q2⟩, b⟩
 exact ⟨rfl, ⟨_, ⟨Zc', m, n, D, a, h.turn q1 q2 b⟩, JqW.turn_gr h.sub q2⟩, b.mono (fun k _ q => h.sub k q)⟩
theorem Jq.writeOwn {Z Zc : Nat → Prop} {w : World} {j c p room nb K fr bl m n : Nat} {D : DataW (Nat × Nat)} {a : Nat → Option (Nat × Nat)} {d : Pd} {s : Js} (h : JqW Z Zc w j c p room nb K fr bl m n D a d s) (hl : d.puts.length ≤ 1073741823) (x : Nat) (hx : x < nb) (g cp : Nat) (zs : List Int) (ho : Own w g 512 cp zs) (hz : Pl.isB zs) (hg : ¬ Zc g) :
  Calls Tryz.prog 178 #[.pointer (some ⟨c, 0, none⟩), .int .i64 (x : Int), .slice (some ⟨g, 0, none⟩) 512 cp] w fun e w' => e = .returned (.int .i64 (d.run1 (.wr x zs)).1) ∧ (∃ Z' Zc', JqW Z' Zc' w' j c p room nb K fr bl m n D a (d.run1 (.wr x zs)).2 s ∧ Gr Z Z' w) ∧ But Zc w w' := by
 refine Calls.mono (h.cq.write hl x hx (some ⟨g, 0, none⟩) cp zs (ho.rdn hz hg)) ?_
 rintro e w' ⟨rfl, ⟨Zc', q1, q2⟩, b⟩
 exact ⟨rfl, ⟨_, Zc', h.turn q1 q2 b, JqW.turn_gr h.sub q2⟩, b⟩
theorem Jq.flush {Z : Nat → Prop} {w : World} {j c p room nb K fr bl : Nat} {d : Pd} {s : Js} (h : Jq Z w j c p room nb K fr bl d s) (hl : d.puts.length ≤ 1073741824) :
  Calls Tryz.prog 121 #[.pointer (some ⟨c, 0, none⟩)] w fun e w' => e = .returned (.int .i64 (d.run1 .fl).1) ∧ (∃ Z', Jq Z' w' j c p room nb K fr bl (d.run1 .fl).2 s ∧ Gr Z Z' w) ∧ But Z w w' := by
 obtain ⟨Zc, m, n, D, a, h⟩ := h
 refine Calls.mono (h.cq.flush hl) ?_
 rintro e w' ⟨rfl, ⟨Zc', q1, q2⟩, b⟩
 exact ⟨rfl, ⟨_, ⟨Zc', m, n, D, a, h.turn q1 q2 b⟩, JqW.turn_gr h.sub q2⟩, b.mono (fun k _ q => h.sub k q)⟩
theorem Jq.fits {Z : Nat → Prop} {w : World} {j c p room nb K fr bl : Nat} {d : Pd} {s : Js} (h : Jq Z w j c p room nb K fr bl d s) : d.Fits nb ∧ 1 ≤ nb ∧ nb ≤ 524288 := by
 obtain ⟨Zc, m, n, D, a, h⟩ := h
 exact h.cq.fits
theorem Jq.dk {Z : Nat → Prop} {w : World} {j c p room nb K fr bl : Nat} {d : Pd} {s : Js} (h : Jq Z w j c p room nb K fr bl d s) : Dk Z w p d.img d.puts d.fu d.off nb ∧ w.cell? ⟨c, 0, none⟩ = some (.pointer (some ⟨p, 0, none⟩)) ∧ c < w.heap.size := by
 obtain ⟨Zc, m, n, D, a, h⟩ := h
 exact ⟨h.cq.dk.mono h.sub, h.cq.c0.1, h.cq.c0.2.1⟩
open Go.RowKit
def blankB (fr bl : Nat) : List Int := packZ [(3, (fr : Int)), (3, (bl : Int))]
def headB (fr bl seq : Nat) : List Int := packZ [(3, (fr : Int)), (3, (bl : Int)), (8, (seq : Int))]
theorem okF_blank {fr bl : Nat} (h1 : fr ≤ 524288) (h2 : bl ≤ 524288) : okF [(3, (fr : Int)), (3, (bl : Int))] := by
 intro f hf
 simp at hf
 rcases hf with rfl | rfl
 ·unfold chk wfB; simp; omega
 ·unfold chk wfB; simp; omega
theorem okF_head {fr bl seq : Nat} (h1 : fr ≤ 524288) (h2 : bl ≤ 524288) (h3 : seq ≤ 1099511627776) : okF [(3, (fr : Int)), (3, (bl : Int)), (8, (seq : Int))] := by
 intro f hf
 simp at hf
 rcases hf with rfl | rfl | rfl
 ·unfold chk wfB; simp; omega
 ·unfold chk wfB; simp; omega
 ·unfold chk wfB; simp; omega
theorem length_blankB (fr bl : Nat) : (blankB fr bl).length = 6 := by simp [blankB, packZ, Pl.dig]
theorem length_headB (fr bl seq : Nat) : (headB fr bl seq).length = 14 := by simp [headB, packZ, Pl.dig]
set_option maxRecDepth 100000 in
theorem blankBody_any {fr bl : Nat} (h1 : fr ≤ 524288) (h2 : bl ≤ 524288) (w : World) : Calls Tryz.prog 269 #[.agg #[.int .i64 (fr : Int), .int .i64 (bl : Int)]] w fun e w' => ∃ g, e = .returned (.slice (some ⟨g, 0, none⟩) 6 6) ∧ w.heap.size ≤ g ∧ Blk .u8 5 w' g (blankB fr bl) ∧ Below w.heap.size w w' := by
 obtain ⟨w1, hw1⟩ : ∃ w1, w1 = w.alloc (.cells #[.int .i64 (fr : Int), .int .i64 (bl : Int)] 238) := ⟨_, rfl⟩
 have HF := hid (fields_any (fr : Int) (bl : Int) w1)
 have b1 : Below w.heap.size w w1 := by rw [hw1]; exact (Below.refl _ _).alloc (Nat.le_refl _) _
 have z1 : w1.heap.size = w.heap.size + 1 := by rw [hw1]; simp
 have B1 := hid b1
 clear b1
 have HP : Hid (∀ w2, w2 = (w1.alloc (.cells #[.int .i64 (fr : Int), .int .i64 (bl : Int)] 148)).alloc (.cells #[.int .i64 3, .int .i64 (fr : Int), .int .i64 3, .int .i64 (bl : Int)] 204) → Calls Tryz.prog 179 #[.slice (some ⟨w1.heap.size + 1, 0, none⟩) 2 2] w2 fun e w' => ∃ g, e = .returned (.slice (some ⟨g, 0, none⟩) 6 6) ∧ w.heap.size ≤ g ∧ Blk .u8 5 w' g (blankB fr bl) ∧ Below w.heap.size w w') := fun w2 hw2 => by
  have z2 : w2.heap.size = w1.heap.size + 2 := by rw [hw2]; simp
  have b2 : Below w.heap.size w w2 := by rw [hw2]; exact (B1.out.alloc (by omega) _).alloc (by simp; omega) _
  refine Calls.mono (packed_any _ 2 2 [(3, (fr : Int)), (3, (bl : Int))] w2 (by omega) ⟨rfl, fun f hf => ?_, .inr ⟨w1.heap.size + 1, 0, rfl, by omega, fun t ht => ?_⟩⟩ (okF_blank h1 h2)) ?_
  ·simp at hf; rcases hf with rfl | rfl <;> simp <;> omega
  ·have hs : (w1.alloc (.cells #[.int .i64 (fr : Int), .int .i64 (bl : Int)] 148)).heap.size = w1.heap.size + 1 := by simp
   have hc := fun i v h => cell_new (vs := #[.int .i64 3, .int .i64 (fr : Int), .int .i64 3, .int .i64 (bl : Int)]) (t := 204) hs i v h
   rw [hw2]
   rcases t with _ | _ | t
   ·exact ⟨hc 0 _ rfl, hc 1 _ rfl⟩
   ·exact ⟨hc 2 _ rfl, hc 3 _ rfl⟩
   ·omega
  ·rintro e w3 ⟨g, rfl, hg, hB, b3⟩
   exact ⟨g, by rw [show (packZ [((3 : Int), (fr : Int)), (3, (bl : Int))]).length = 6 from length_blankB fr bl], by omega, hB, b2.trans (b3.mono (by omega))⟩
 clear h1 h2 B1 z1
 go_enter Tryz.func269, Tryz.ntmps269
 go_wp2_with fail
 rw [← hw1]
 refine Calls.mono HF.out ?_
 rintro e w2 ⟨rfl, hw2⟩
 have HP2 := hid (HP.out w2 hw2)
 clear hw2 HP HF hw1
 go_wp2_with fail
 refine Calls.mono HP2.out ?_
 rintro e w3 ⟨g, rfl, q⟩
 have FIN := hid q
 clear q HP2
 go_wp2
 go_ret
 exact ⟨g, rfl, FIN.out⟩
end Go.Proofs.YtlefjidbpjkhlaaGreat
