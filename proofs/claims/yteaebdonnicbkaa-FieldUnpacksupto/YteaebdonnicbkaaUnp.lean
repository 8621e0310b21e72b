/-
  Unpack.
-/
import Derived.Test.YteaebdonnicbkaaPack
namespace Go.Proofs.Yteaebdonnicbkaa
open Go.RowKit

/-- NUMBERS (int) THAT ARE READ, below block B -/
def RdI (B : Nat) (w : World) (a : Option Addr) (m : Nat) (ws : List Int) : Prop :=
  ws.length = m ∧ (m = 0 ∨ ∃ b off, a = some ⟨b, off, none⟩ ∧ b < B ∧ ∀ t, t < m → w.cell? ⟨b, off + t, none⟩ = some (.int .i64 (ws.getD t 0)))

theorem RdI.below {B : Nat} {w w' : World} {a : Option Addr} {n : Nat} {zs : List Int} (h : RdI B w a n zs) (hb : Below B w w') : RdI B w' a n zs := by
  obtain ⟨h1, h3⟩ := h
  refine ⟨h1, ?_⟩
  rcases h3 with h3 | ⟨b, off, rfl, hlt, hc⟩
  · exact .inl h3
  · exact .inr ⟨b, off, rfl, hlt, fun t ht => (hb.cell (by exact hlt)).trans (hc t ht)⟩

/-- the widths' sum; the k-th value; all values -/
def sumW (ws : List Int) : Nat := (ws.map Int.toNat).sum
def valK (zs ws : List Int) (k : Nat) : Int := Pl.num ((zs.drop (sumW (ws.take k))).take (ws.getD k 0).toNat)
def vals (zs ws : List Int) : Nat → List Int
  | 0 => []
  | k + 1 => vals zs ws k ++ [valK zs ws k]
def okW (ws : List Int) : Prop := ∀ x ∈ ws, wfB x = true

theorem wf_bd {x : Int} (h : wfB x = true) : 1 ≤ x ∧ x ≤ 8 := by simpa [wfB] using h
theorem length_vals (zs ws : List Int) (k : Nat) : (vals zs ws k).length = k := by
  induction k with
  | zero => rfl
  | succ k ih => simp [vals, ih]
theorem sumW_snoc {ws : List Int} {k : Nat} (h : k < ws.length) : sumW (ws.take (k + 1)) = sumW (ws.take k) + (ws.getD k 0).toNat := by
  rw [take_snoc h, sumW, sumW, List.map_append, List.sum_append]; simp
theorem sumW_part {ws : List Int} {k : Nat} (h : k < ws.length) : sumW (ws.take k) + (ws.getD k 0).toNat ≤ sumW ws := by
  rw [← sumW_snoc h]
  conv => rhs; rw [← List.take_append_drop (k + 1) ws]
  rw [sumW, sumW, List.map_append, List.sum_append]; omega
theorem sumW_le {ws : List Int} (h : okW ws) : sumW ws ≤ 8 * ws.length := by
  induction ws with
  | nil => simp [sumW]
  | cons x r ih =>
    have h1 := wf_bd (h x (by simp))
    have h2 := ih fun g hg => h g (by simp [hg])
    simp only [sumW, List.map_cons, List.sum_cons, List.length_cons] at *
    omega

set_option maxRecDepth 100000 in
set_option maxHeartbeats 1000000 in
theorem Unpack_ok (a a2 : Option Addr) (n c m c2 : Nat) (zs ws : List Int) (w : World) (hm : m ≤ 16777216) (hcap : n ≤ c) (hR : Rd w.heap.size w a n zs) (hR2 : RdI w.heap.size w a2 m ws) (hok : okW ws) (hn : n = sumW ws) (hv : ∀ k, k < m → valK zs ws k ≤ 9223372036854775807) :
    Calls Try.prog 18 #[.slice a n c, .slice a2 m c2] w fun e w' => ∃ g, e = .returned (.tuple #[.slice (some ⟨g, 0, none⟩) m m, .int .i64 0]) ∧ w.heap.size ≤ g ∧ Blk .i64 3 w' g (vals zs ws m) ∧ Below w.heap.size w w' := by
  obtain ⟨hl, h3⟩ := hR2
  have HN := hid hn
  have hle := sumW_le hok
  have hn2 : n ≤ 134217728 := by omega
  clear hle hn
  go_enter Try.func18, Try.ntmps18
  go_wp2
  go_loop [6, 16] (fun s i => ∃ k : Nat, k ≤ m ∧ i = .int .i64 (k : Int) ∧ s = .int .i64 (sumW (ws.take k) : Int)) (fun _ i => m - (intOf i).toNat)
  case atStart => exact ⟨0, Nat.zero_le _, rfl, rfl⟩
  case round =>
    obtain ⟨k, hk, rfl, rfl⟩ := hrel
    by_cases hkm : k < m
    · obtain ⟨b, off, rfl, hb, hc⟩ := h3.resolve_left (by omega)
      obtain ⟨x, hx⟩ : ∃ x, x = ws.getD k 0 := ⟨_, rfl⟩
      have hmem : ws.getD k 0 ∈ ws := by
        have : k < ws.length := by omega
        simp [this]
      have hck := hok _ hmem
      have hcx := hc k hkm
      have hs := sumW_snoc (ws := ws) (k := k) (by omega)
      have hle := sumW_le (ws := ws.take k) (fun f hf => hok f (List.mem_of_mem_take hf))
      rw [List.length_take] at hle
      rw [← hx] at hcx hck hs
      have HS := hid hs
      obtain ⟨x1, x2⟩ := wf_bd hck
      have hle2 : sumW (ws.take k) ≤ 134217728 := by omega
      clear hs hle hx hmem hc
      generalize sumW (ws.take k) = pl at *
      go_wp2_with (go_at_call 38; refine (widthFits_any x _).mono ?_; rintro e w1 ⟨rfl, rfl⟩)
      go_round
      case rel => exact ⟨k + 1, by omega, by go_num, by rw [HS.out]; congr 1; omega⟩
      case measure => simp [intOf]; omega
    · have e : ws.take k = ws := List.take_of_length_le (by omega)
      rw [e, ← HN.out]
      have hmk := make_i64 m (by omega)
      have hB0 := hid (Blk.new (k := .i64) (e := 3) w (zeros m))
      have hb0 : Below w.heap.size w (w.alloc (.cells ((zeros m).map (Value.int .i64)).toArray 3)) := (Below.refl _ _).alloc (Nat.le_refl _) _
      have Hb0 := hid hb0
      clear e hb0
      go_wp2
      clear hkm hk
      go_loopw [10, 36] (fun s i wt => ∃ k : Nat, k ≤ m ∧ i = .int .i64 (k : Int) ∧ s = .int .i64 (sumW (ws.take k) : Int) ∧ Blk .i64 3 wt w.heap.size (vals zs ws k ++ zeros (m - k)) ∧ Below w.heap.size w wt) (fun _ i _ => m - (intOf i).toNat)
      case atStart => exact ⟨0, Nat.zero_le _, rfl, rfl, hB0.out, Hb0.out⟩
      case round =>
        obtain ⟨k, hk, rfl, rfl, hBk, hbt⟩ := hrel
        have HB := hid hBk
        clear hBk
        by_cases hkm : k < m
        · obtain ⟨b2, off2, rfl, hb2, hc2⟩ := h3.resolve_left (by omega)
          have hmem : ws.getD k 0 ∈ ws := by
            have : k < ws.length := by omega
            simp [this]
          have hck := hok _ hmem
          obtain ⟨x1, x2⟩ := wf_bd hck
          obtain ⟨X, hX⟩ := Int.eq_ofNat_of_zero_le (show 0 ≤ ws.getD k 0 by omega)
          have hcx := (hbt.cell (p := ⟨b2, off2 + k, none⟩) (by exact hb2)).trans (hc2 k hkm)
          have hs := sumW_snoc (ws := ws) (k := k) (by omega)
          have hp := sumW_part (ws := ws) (k := k) (by omega)
          have hvk := hv k hkm
          have hv0 : 0 ≤ valK zs ws k := Pl.num_nonneg (Pl.isB_take (Pl.isB_drop hR.2.1 _) _)
          obtain ⟨b, off, rfl, hb, hc⟩ := hR.2.2.resolve_left (by rw [HN.out]; omega)
          rw [hX] at hcx hs hp x1 x2
          rw [← HN.out] at hp
          simp only [Int.toNat_natCast] at hs hp
          have hg := getNumber_any b (off + sumW (ws.take k)) X (c - sumW (ws.take k)) ((zs.drop (sumW (ws.take k))).take X) wr (by omega) (by rw [List.length_take, List.length_drop, hR.1]; omega) (Pl.isB_take (Pl.isB_drop hR.2.1 _) _)
            (fun t ht => (hbt.cell (by exact hb)).trans (part_cells hc _ _ hp t ht))
          have hval : Pl.num ((zs.drop (sumW (ws.take k))).take X) = valK zs ws k := by unfold valK; rw [hX]; rfl
          rw [hval] at hg
          have HG := hid hg
          have HS := hid hs
          have hlen : (vals zs ws k ++ zeros (m - k)).length = m := by rw [List.length_append, length_zeros, length_vals]; omega
          have HL := hid hlen
          have hck2 := HB.out.cell k (by omega)
          have hfk := HB.out.frozen k
          generalize (vals zs ws k ++ zeros (m - k)).getD k 0 = old at *
          clear hval hs hg hck hmem hX hc2 hc hv hlen
          generalize sumW (ws.take k) = pl at *
          generalize hVV : valK zs ws k = V at *
          have HV := hid hVV
          clear hVV
          have hne : ¬ c = pl := by omega
          have hgt : ¬ 9223372036854775807 < V := by omega
          go_wp2_with fail
          refine Calls.mono HG.out ?_
          rintro e w1 ⟨rfl, rfl⟩
          go_wp2
          go_roundw
          case rel =>
            refine ⟨k + 1, by omega, by go_num, by rw [HS.out]; rfl, ?_, hbt.setCell (Nat.le_refl _) _⟩
            have h := HB.out.set k V
            rw [show (vals zs ws k ++ zeros (m - k)).set k V = vals zs ws (k + 1) ++ zeros (m - (k + 1)) from ?_] at h
            · exact h
            · rw [vals, HV.out, List.set_append_right _ _ (by rw [length_vals]; exact Nat.le_refl _), length_vals, Nat.sub_self, show m - k = (m - (k + 1)) + 1 by omega]
              simp [zeros, List.replicate_succ]
          case measure => simp [intOf]; omega
        · have e : k = m := by omega
          subst e
          rw [Nat.sub_self, show vals zs ws k ++ zeros 0 = vals zs ws k from by simp [zeros]] at HB
          go_wp2
          go_ret2
          exact ⟨w.heap.size, rfl, Nat.le_refl _, HB.out, hbt⟩

end Go.Proofs.Yteaebdonnicbkaa
