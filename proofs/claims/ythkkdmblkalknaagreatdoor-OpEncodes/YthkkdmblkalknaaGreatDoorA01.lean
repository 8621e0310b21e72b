import Derived.Test.YthkkdmblkalknaaGreatDoorA00
import Derived.Laws.BytesArg
import Derived.Lib.SlBytesConst
/-
  Pack.
-/
namespace Go.Proofs.YthkkdmblkalknaaGreatDoor
open Go.RowKit

/-- the fields' bytes; the first error -/
theorem zeros_add (m n : Nat) : zeros (m + n) = zeros m ++ zeros n := by simp [zeros, List.replicate_append_replicate]
def packZ (fs : List (Int × Int)) : List Int := fs.flatMap fun f => Pl.dig f.2 f.1.toNat
def okF (fs : List (Int × Int)) : Prop := ∀ f ∈ fs, chk f.1 f.2 = 0

theorem chk_zero {x v : Int} (h : chk x v = 0) : 1 ≤ x ∧ x ≤ 8 ∧ 0 ≤ v ∧ v < 256 ^ x.toNat := by
  unfold chk at h
  split at h
  · cases h
  · split at h
    · cases h
    · rename_i h1 h2
      simp [wfB] at h1
      simp at h2
      omega
theorem packZ_snoc (fs : List (Int × Int)) (x v : Int) : packZ (fs ++ [(x, v)]) = packZ fs ++ Pl.dig v x.toNat := by simp [packZ]
theorem takeF {fs : List (Int × Int)} {k : Nat} (h : k < fs.length) : fs.take (k + 1) = fs.take k ++ [fs.getD k (0, 0)] := by
  rw [List.take_succ_eq_append_getElem h]; simp [h]
theorem okF_le {fs : List (Int × Int)} (h : okF fs) : (packZ fs).length ≤ 8 * fs.length := by
  induction fs with
  | nil => simp [packZ]
  | cons f r ih =>
    have h1 := chk_zero (h f (by simp))
    have h2 := ih fun g hg => h g (by simp [hg])
    simp only [packZ, List.flatMap_cons, List.length_append, Pl.length_dig, List.length_cons] at *
    omega
theorem isB_packZ (fs : List (Int × Int)) : Pl.isB (packZ fs) := by
  induction fs with
  | nil => exact Pl.isB_nil
  | cons f r ih => simp only [packZ, List.flatMap_cons]; exact Pl.isB_append.2 ⟨Pl.isB_dig _ _, ih⟩

/-- one field more -/
theorem packZ_part (fs : List (Int × Int)) (k : Nat) (h : k < fs.length) :
    (packZ (fs.take (k + 1))).length = (packZ (fs.take k)).length + (fs.getD k (0, 0)).1.toNat ∧ (packZ (fs.take k)).length + (fs.getD k (0, 0)).1.toNat ≤ (packZ fs).length ∧
    splice (packZ (fs.take k) ++ zeros ((packZ fs).length - (packZ (fs.take k)).length)) (packZ (fs.take k)).length (Pl.dig (fs.getD k (0, 0)).2 (fs.getD k (0, 0)).1.toNat) =
      packZ (fs.take (k + 1)) ++ zeros ((packZ fs).length - (packZ (fs.take (k + 1))).length) := by
  generalize hf : fs.getD k (0, 0) = f
  obtain ⟨x, v⟩ := f
  have h1 : packZ (fs.take (k + 1)) = packZ (fs.take k) ++ Pl.dig v x.toNat := by rw [takeF h, hf, packZ_snoc]
  have h2 : packZ fs = packZ (fs.take (k + 1)) ++ packZ (fs.drop (k + 1)) := by
    unfold packZ
    rw [← List.flatMap_append, List.take_append_drop]
  have h3 : (packZ fs).length = (packZ (fs.take k)).length + x.toNat + (packZ (fs.drop (k + 1))).length := by rw [h2, h1]; simp [Pl.length_dig]; omega
  refine ⟨by rw [h1]; simp [Pl.length_dig], by show _ + x.toNat ≤ _; omega, ?_⟩
  rw [h1, h3]
  generalize packZ (fs.take k) = A
  have e : A.length + x.toNat + (packZ (fs.drop (k + 1))).length - A.length = x.toNat + (packZ (fs.drop (k + 1))).length := by omega
  have e2 : A.length + x.toNat + (packZ (fs.drop (k + 1))).length - (A ++ Pl.dig v x.toNat).length = (packZ (fs.drop (k + 1))).length := by rw [List.length_append, Pl.length_dig]; omega
  rw [e, e2, zeros_add]
  unfold splice
  rw [List.take_left, Pl.length_dig, List.drop_append, List.drop_of_length_le (by omega), List.nil_append, show A.length + x.toNat - A.length = (zeros x.toNat).length by rw [length_zeros]; omega, List.drop_left, List.append_assoc]

/-- FIELDS THAT ARE READ, below block B (of none of them nothing is known) -/
def RdF (B : Nat) (w : World) (a : Option Addr) (m : Nat) (fs : List (Int × Int)) : Prop :=
  fs.length = m ∧ (∀ f ∈ fs, -9223372036854775808 ≤ f.2 ∧ f.2 ≤ 9223372036854775807) ∧ (m = 0 ∨ ∃ b off, a = some ⟨b, off, none⟩ ∧ b < B ∧
    ∀ t, t < m → w.cell? ⟨b, off + t * 2, none⟩ = some (.int .i64 (fs.getD t (0, 0)).1) ∧ w.cell? ⟨b, off + t * 2 + 1, none⟩ = some (.int .i64 (fs.getD t (0, 0)).2))

set_option maxRecDepth 100000 in
set_option maxHeartbeats 1000000 in
theorem Pack_ok (a : Option Addr) (m c : Nat) (fs : List (Int × Int)) (w : World) (hm : m ≤ 16777216) (hR : RdF w.heap.size w a m fs) (hok : okF fs) :
    Calls Tryz.prog 101 #[.slice a m c] w fun e w' => ∃ g, e = .returned (.tuple #[.slice (some ⟨g, 0, none⟩) (packZ fs).length (packZ fs).length, .int .i64 0]) ∧ w.heap.size ≤ g ∧ Blk .u8 5 w' g (packZ fs) ∧ Below w.heap.size w w' := by
  obtain ⟨hl, hv, h3⟩ := hR
  go_enter Tryz.func101, Tryz.ntmps101
  go_wp2
  go_loopw [4, 14] (fun s i wr => ∃ k : Nat, k ≤ m ∧ i = .int .i64 (k : Int) ∧ s = .int .i64 ((packZ (fs.take k)).length : Int) ∧ Below w.heap.size w wr) (fun _ i _ => m - (intOf i).toNat)
  case atStart => exact ⟨0, Nat.zero_le _, rfl, rfl, Below.refl _ _⟩
  case round =>
    obtain ⟨k, hk, rfl, rfl, hbr⟩ := hrel
    by_cases hkm : k < m
    · obtain ⟨b, off, rfl, hb, hc⟩ := h3.resolve_left (by omega)
      obtain ⟨x, hx⟩ : ∃ x, x = (fs.getD k (0, 0)).1 := ⟨_, rfl⟩
      obtain ⟨v, hv'⟩ : ∃ v, v = (fs.getD k (0, 0)).2 := ⟨_, rfl⟩
      have hmem : fs.getD k (0, 0) ∈ fs := by
        have : k < fs.length := by omega
        simp [this]
      have hck := hok _ hmem
      have hvb := hv _ hmem
      obtain ⟨hcx, hcv⟩ := hc k hkm
      rw [← hx] at hcx hck
      rw [← hv'] at hcv hck hvb
      have hcx' := (hbr.cell (p := ⟨b, off + k * 2, none⟩) (by exact hb)).trans hcx
      have hcv' := (hbr.cell (p := ⟨b, off + k * 2 + 1, none⟩) (by exact hb)).trans hcv
      obtain ⟨x1, x2, _, _⟩ := chk_zero hck
      have hle := okF_le (fs := fs.take k) (fun f hf => hok f (List.mem_of_mem_take hf))
      have hnx : (packZ (fs.take (k + 1))).length = (packZ (fs.take k)).length + x.toNat := by
        rw [takeF (by omega), show fs.getD k (0, 0) = (x, v) from by rw [hx, hv'], packZ_snoc, List.length_append, Pl.length_dig]
      have HN := hid hnx
      rw [List.length_take] at hle
      have hle2 : (packZ (fs.take k)).length ≤ 134217728 := by omega
      clear hle hnx hx hv' hmem hcx hcv
      generalize (packZ (fs.take k)).length = pl at *
      go_wp2_with fail
      refine (checkField_any x v _ hvb.1 hvb.2).mono ?_
      rintro e w1 ⟨rfl, rfl⟩
      rw [hck]
      go_wp2
      go_roundw
      case rel => exact ⟨k + 1, by omega, by go_num, by rw [HN.out]; congr 1; omega, (hbr.alloc hbr.size _).alloc (by have := hbr.size; simp; omega) _⟩
      case measure => simp [intOf]; omega
    · have e : fs.take k = fs := List.take_of_length_le (by omega)
      rw [e]
      have hle := okF_le hok
      have hle2 : (packZ fs).length ≤ 134217728 := by omega
      have hmk := make_u8 (packZ fs).length (by omega)
      have hB0 := Blk.new (k := .u8) (e := 5) wr (zeros (packZ fs).length)
      have HB0 := hid hB0
      clear e hle hB0
      have hg : w.heap.size ≤ wr.heap.size := hbr.size
      have hb0 : Below w.heap.size w (wr.alloc (.cells ((zeros (packZ fs).length).map (Value.int .u8)).toArray 5)) := hbr.alloc hbr.size _
      have Hb0 := hid hb0
      clear hbr hb0
      go_wp2
      generalize wr.heap.size = g at *
      go_loopw [9, 32] (fun s i wt => ∃ k : Nat, k ≤ m ∧ i = .int .i64 (k : Int) ∧ s = .int .i64 ((packZ (fs.take k)).length : Int) ∧ Blk .u8 5 wt g (packZ (fs.take k) ++ zeros ((packZ fs).length - (packZ (fs.take k)).length)) ∧ Below w.heap.size w wt) (fun _ i _ => m - (intOf i).toNat)
      case atStart => exact ⟨0, Nat.zero_le _, rfl, rfl, by rw [List.take_zero]; exact HB0.out, Hb0.out⟩
      case round =>
        clear HB0 Hb0 hmk hkm
        obtain ⟨k, hk, rfl, rfl, hBk, hbt⟩ := hrel
        by_cases hkm : k < m
        · obtain ⟨b, off, rfl, hb, hc⟩ := h3.resolve_left (by omega)
          obtain ⟨x, hx⟩ : ∃ x, x = (fs.getD k (0, 0)).1 := ⟨_, rfl⟩
          obtain ⟨v, hv'⟩ : ∃ v, v = (fs.getD k (0, 0)).2 := ⟨_, rfl⟩
          have hmem : fs.getD k (0, 0) ∈ fs := by
            have : k < fs.length := by omega
            simp [this]
          have hck := hok _ hmem
          have hvb := hv _ hmem
          obtain ⟨hcx, hcv⟩ := hc k hkm
          rw [← hx] at hcx hck
          rw [← hv'] at hcv hck hvb
          obtain ⟨x1, x2, v1, v2⟩ := chk_zero hck
          obtain ⟨X, rfl⟩ := Int.eq_ofNat_of_zero_le (show 0 ≤ x by omega)
          have hcx' := (hbt.cell (p := ⟨b, off + k * 2, none⟩) (by exact hb)).trans hcx
          have hcv' := (hbt.cell (p := ⟨b, off + k * 2 + 1, none⟩) (by exact hb)).trans hcv
          have hz := packZ_part fs k (by omega)
          rw [show fs.getD k (0, 0) = ((X : Int), v) from by rw [hx, hv']] at hz
          obtain ⟨z1, z2, z3⟩ := hz
          simp only [Int.toNat_natCast] at z1 z2 z3
          have HN := hid z1
          have HZ := hid z3
          have HB := hid hBk
          have hlen : (packZ (fs.take k) ++ zeros ((packZ fs).length - (packZ (fs.take k)).length)).length = (packZ fs).length := by rw [List.length_append, length_zeros]; omega
          have HL := hid hlen
          obtain ⟨v3, v4⟩ := hvb
          clear hx hv' hmem hcx hcv hBk z1 z3 hlen hck v2
          generalize hpl : (packZ (fs.take k)).length = pl at *
          generalize hn : (packZ fs).length = n at *
          clear hpl hn
          have hne : ¬ n = pl := by omega
          obtain ⟨P, hP⟩ : ∃ P, P = pl + X := ⟨_, rfl⟩
          have ew : IntKind.i64.wrap ((pl : Int) + (X : Int)) = (P : Int) := by rw [IntKind.wrap_i64]; omega
          have hP1 : pl ≤ P := by omega
          have hP2 : (P : Int) ≤ (n : Int) := by omega
          have hP3 : Hid (P = pl + X) := hP
          clear hP
          have hB2 : Blk .u8 5 (wr.alloc (.cells #[.int .i64 (X : Int), .int .i64 v] 148)).drew g (packZ (fs.take k) ++ zeros (n - pl)) := (HB.out.alloc _).drew
          have hput := putNumber_any g pl X (n - pl) v _ _ (by omega) v1 (by omega) hB2 (by rw [HL.out]; omega)
          rw [HZ.out] at hput
          have HP : Hid (Calls Tryz.prog 125 #[.slice (some ⟨g, pl, none⟩) (P - pl) (n - pl), .int .u64 (IntKind.u64.wrap v)] (wr.alloc (.cells #[.int .i64 (X : Int), .int .i64 v] 148)).drew fun e w' => e = .returned (.tuple #[]) ∧
              w'.heap.size = (wr.alloc (.cells #[.int .i64 (X : Int), .int .i64 v] 148)).drew.heap.size ∧ (wr.alloc (.cells #[.int .i64 (X : Int), .int .i64 v] 148)).drew.grownBy w' (some g) ∧ Blk .u8 5 w' g (packZ (fs.take (k + 1)) ++ zeros (n - (packZ (fs.take (k + 1))).length))) := by
            show Calls _ _ _ _ _
            rw [show P - pl = X from by rw [hP3.out]; omega, show IntKind.u64.wrap v = v from by rw [IntKind.wrap_u64]; omega]
            exact hput
          clear hput hB2
          have hbt2 : Below w.heap.size w (wr.alloc (.cells #[.int .i64 (X : Int), .int .i64 v] 148)).drew := (hbt.alloc hbt.size _).drew
          have hgne : some wr.heap.size ≠ some g := by intro h; have h1 := HB.out.lt; have h2 := Option.some.inj h; omega
          go_wp2_with fail
          go_region_with (go_at_call 125; refine Calls.mono HP.out ?_; rintro e w1 ⟨rfl, hs1, hg1, hB1⟩; (have hb1 : Below w.heap.size w w1 := hbt2.grown hg1 hbt2.size (fun k h => by cases h; exact hg); have hcw : w1.cell? ⟨wr.heap.size, 0, none⟩ = some (.int .i64 (X : Int)) := hg1.cell (by simp) hgne; clear hs1 hg1))
          all_goals have HB1 := hid hB1
          all_goals clear hB1
          all_goals go_wp2
          all_goals
            go_roundw
            case rel => exact ⟨k + 1, by omega, by go_num, by rw [HN.out, hP3.out], HB1.out, by assumption⟩
            case measure => simp [intOf]; omega
        · have e : fs.take k = fs := List.take_of_length_le (by omega)
          rw [e, Nat.sub_self] at hBk
          rw [show packZ fs ++ zeros 0 = packZ fs from by simp [zeros]] at hBk
          have HB := hid hBk
          clear hBk
          go_wp2
          go_ret2
          exact ⟨g, rfl, hg, HB.out, hbt⟩

end Go.Proofs.YthkkdmblkalknaaGreatDoor
/-
  Unpack.
-/
namespace Go.Proofs.YthkkdmblkalknaaGreatDoor
open Go.RowKit

theorem part_cells {w : World} {b off m : Nat} {zs : List Int} (hc : ∀ t, t < m → w.cell? ⟨b, off + t, none⟩ = some (.int .u8 (zs.getD t 0))) (i n : Nat) (h : i + n ≤ m) :
    ∀ t, t < n → w.cell? ⟨b, off + i + t, none⟩ = some (.int .u8 (((zs.drop i).take n).getD t 0)) := by
  intro t ht
  rw [show off + i + t = off + (i + t) by omega, hc (i + t) (by omega)]
  simp [List.getElem?_take_of_lt ht]
/-- NUMBERS (int) THAT ARE READ, below block B -/
def RdI (B : Nat) (w : World) (a : Option Addr) (m : Nat) (ws : List Int) : Prop :=
  ws.length = m ∧ (m = 0 ∨ ∃ b off, a = some ⟨b, off, none⟩ ∧ b < B ∧ ∀ t, t < m → w.cell? ⟨b, off + t, none⟩ = some (.int .i64 (ws.getD t 0)))

theorem RdI.below {B : Nat} {w w' : World} {a : Option Addr} {n : Nat} {zs : List Int} (h : RdI B w a n zs) (hb : Below B w w') : RdI B w' a n zs := by
  obtain ⟨h1, h3⟩ := h
  refine ⟨h1, ?_⟩
  rcases h3 with h3 | ⟨b, off, rfl, hlt, hc⟩
  · exact .inl h3
  · exact .inr ⟨b, off, rfl, hlt, fun t ht => (hb.cell (by exact hlt)).trans (hc t ht)⟩

/-- the widths' sum; the k-th value; all values -/
def sumW (ws : List Int) : Nat := (ws.map Int.toNat).sum
def valK (zs ws : List Int) (k : Nat) : Int := Pl.num ((zs.drop (sumW (ws.take k))).take (ws.getD k 0).toNat)
def vals (zs ws : List Int) : Nat → List Int
  | 0 => []
  | k + 1 => vals zs ws k ++ [valK zs ws k]
def okW (ws : List Int) : Prop := ∀ x ∈ ws, wfB x = true

theorem wf_bd {x : Int} (h : wfB x = true) : 1 ≤ x ∧ x ≤ 8 := by simpa [wfB] using h
theorem length_vals (zs ws : List Int) (k : Nat) : (vals zs ws k).length = k := by
  induction k with
  | zero => rfl
  | succ k ih => simp [vals, ih]
theorem sumW_snoc {ws : List Int} {k : Nat} (h : k < ws.length) : sumW (ws.take (k + 1)) = sumW (ws.take k) + (ws.getD k 0).toNat := by
  rw [take_snoc h, sumW, sumW, List.map_append, List.sum_append]; simp
theorem sumW_part {ws : List Int} {k : Nat} (h : k < ws.length) : sumW (ws.take k) + (ws.getD k 0).toNat ≤ sumW ws := by
  rw [← sumW_snoc h]
  conv => rhs; rw [← List.take_append_drop (k + 1) ws]
  rw [sumW, sumW, List.map_append, List.sum_append]; omega
theorem sumW_le {ws : List Int} (h : okW ws) : sumW ws ≤ 8 * ws.length := by
  induction ws with
  | nil => simp [sumW]
  | cons x r ih =>
    have h1 := wf_bd (h x (by simp))
    have h2 := ih fun g hg => h g (by simp [hg])
    simp only [sumW, List.map_cons, List.sum_cons, List.length_cons] at *
    omega

set_option maxRecDepth 100000 in
set_option maxHeartbeats 1000000 in
theorem Unpack_ok (a a2 : Option Addr) (n c m c2 : Nat) (zs ws : List Int) (w : World) (hm : m ≤ 16777216) (hcap : n ≤ c) (hR : Rd w.heap.size w a n zs) (hR2 : RdI w.heap.size w a2 m ws) (hok : okW ws) (hn : n = sumW ws) (hv : ∀ k, k < m → valK zs ws k ≤ 9223372036854775807) :
    Calls Tryz.prog 105 #[.slice a n c, .slice a2 m c2] w fun e w' => ∃ g, e = .returned (.tuple #[.slice (some ⟨g, 0, none⟩) m m, .int .i64 0]) ∧ w.heap.size ≤ g ∧ Blk .i64 3 w' g (vals zs ws m) ∧ Below w.heap.size w w' := by
  obtain ⟨hl, h3⟩ := hR2
  have HN := hid hn
  have hle := sumW_le hok
  have hn2 : n ≤ 134217728 := by omega
  clear hle hn
  go_enter Tryz.func105, Tryz.ntmps105
  go_wp2
  go_loop [6, 16] (fun s i => ∃ k : Nat, k ≤ m ∧ i = .int .i64 (k : Int) ∧ s = .int .i64 (sumW (ws.take k) : Int)) (fun _ i => m - (intOf i).toNat)
  case atStart => exact ⟨0, Nat.zero_le _, rfl, rfl⟩
  case round =>
    obtain ⟨k, hk, rfl, rfl⟩ := hrel
    by_cases hkm : k < m
    · obtain ⟨b, off, rfl, hb, hc⟩ := h3.resolve_left (by omega)
      obtain ⟨x, hx⟩ : ∃ x, x = ws.getD k 0 := ⟨_, rfl⟩
      have hmem : ws.getD k 0 ∈ ws := by
        have : k < ws.length := by omega
        simp [this]
      have hck := hok _ hmem
      have hcx := hc k hkm
      have hs := sumW_snoc (ws := ws) (k := k) (by omega)
      have hle := sumW_le (ws := ws.take k) (fun f hf => hok f (List.mem_of_mem_take hf))
      rw [List.length_take] at hle
      rw [← hx] at hcx hck hs
      have HS := hid hs
      obtain ⟨x1, x2⟩ := wf_bd hck
      have hle2 : sumW (ws.take k) ≤ 134217728 := by omega
      clear hs hle hx hmem hc
      generalize sumW (ws.take k) = pl at *
      go_wp2_with (go_at_call 128; refine (widthFits_any x _).mono ?_; rintro e w1 ⟨rfl, rfl⟩)
      go_round
      case rel => exact ⟨k + 1, by omega, by go_num, by rw [HS.out]; congr 1; omega⟩
      case measure => simp [intOf]; omega
    · have e : ws.take k = ws := List.take_of_length_le (by omega)
      rw [e, ← HN.out]
      have hmk := make_i64 m (by omega)
      have hB0 := hid (Blk.new (k := .i64) (e := 3) w (zeros m))
      have hb0 : Below w.heap.size w (w.alloc (.cells ((zeros m).map (Value.int .i64)).toArray 3)) := (Below.refl _ _).alloc (Nat.le_refl _) _
      have Hb0 := hid hb0
      clear e hb0
      go_wp2
      clear hkm hk
      go_loopw [10, 36] (fun s i wt => ∃ k : Nat, k ≤ m ∧ i = .int .i64 (k : Int) ∧ s = .int .i64 (sumW (ws.take k) : Int) ∧ Blk .i64 3 wt w.heap.size (vals zs ws k ++ zeros (m - k)) ∧ Below w.heap.size w wt) (fun _ i _ => m - (intOf i).toNat)
      case atStart => exact ⟨0, Nat.zero_le _, rfl, rfl, hB0.out, Hb0.out⟩
      case round =>
        obtain ⟨k, hk, rfl, rfl, hBk, hbt⟩ := hrel
        have HB := hid hBk
        clear hBk
        by_cases hkm : k < m
        · obtain ⟨b2, off2, rfl, hb2, hc2⟩ := h3.resolve_left (by omega)
          have hmem : ws.getD k 0 ∈ ws := by
            have : k < ws.length := by omega
            simp [this]
          have hck := hok _ hmem
          obtain ⟨x1, x2⟩ := wf_bd hck
          obtain ⟨X, hX⟩ := Int.eq_ofNat_of_zero_le (show 0 ≤ ws.getD k 0 by omega)
          have hcx := (hbt.cell (p := ⟨b2, off2 + k, none⟩) (by exact hb2)).trans (hc2 k hkm)
          have hs := sumW_snoc (ws := ws) (k := k) (by omega)
          have hp := sumW_part (ws := ws) (k := k) (by omega)
          have hvk := hv k hkm
          have hv0 : 0 ≤ valK zs ws k := Pl.num_nonneg (Pl.isB_take (Pl.isB_drop hR.2.1 _) _)
          obtain ⟨b, off, rfl, hb, hc⟩ := hR.2.2.resolve_left (by rw [HN.out]; omega)
          rw [hX] at hcx hs hp x1 x2
          rw [← HN.out] at hp
          simp only [Int.toNat_natCast] at hs hp
          have hg := getNumber_any b (off + sumW (ws.take k)) X (c - sumW (ws.take k)) ((zs.drop (sumW (ws.take k))).take X) wr (by omega) (by rw [List.length_take, List.length_drop, hR.1]; omega) (Pl.isB_take (Pl.isB_drop hR.2.1 _) _)
            (fun t ht => (hbt.cell (by exact hb)).trans (part_cells hc _ _ hp t ht))
          have hval : Pl.num ((zs.drop (sumW (ws.take k))).take X) = valK zs ws k := by unfold valK; rw [hX]; rfl
          rw [hval] at hg
          have HG := hid hg
          have HS := hid hs
          have hlen : (vals zs ws k ++ zeros (m - k)).length = m := by rw [List.length_append, length_zeros, length_vals]; omega
          have HL := hid hlen
          have hck2 := HB.out.cell k (by omega)
          have hfk := HB.out.frozen k
          generalize (vals zs ws k ++ zeros (m - k)).getD k 0 = old at *
          clear hval hs hg hck hmem hX hc2 hc hv hlen
          generalize sumW (ws.take k) = pl at *
          generalize hVV : valK zs ws k = V at *
          have HV := hid hVV
          clear hVV
          have hne : ¬ c = pl := by omega
          have hgt : ¬ 9223372036854775807 < V := by omega
          go_wp2_with fail
          refine Calls.mono HG.out ?_
          rintro e w1 ⟨rfl, rfl⟩
          go_wp2
          go_roundw
          case rel =>
            refine ⟨k + 1, by omega, by go_num, by rw [HS.out]; rfl, ?_, hbt.setCell (Nat.le_refl _) _⟩
            have h := HB.out.set k V
            rw [show (vals zs ws k ++ zeros (m - k)).set k V = vals zs ws (k + 1) ++ zeros (m - (k + 1)) from ?_] at h
            · exact h
            · rw [vals, HV.out, List.set_append_right _ _ (by rw [length_vals]; exact Nat.le_refl _), length_vals, Nat.sub_self, show m - k = (m - (k + 1)) + 1 by omega]
              simp [zeros, List.replicate_succ]
          case measure => simp [intOf]; omega
        · have e : k = m := by omega
          subst e
          rw [Nat.sub_self, show vals zs ws k ++ zeros 0 = vals zs ws k from by simp [zeros]] at HB
          go_wp2
          go_ret2
          exact ⟨w.heap.size, rfl, Nat.le_refl _, HB.out, hbt⟩

end Go.Proofs.YthkkdmblkalknaaGreatDoor
/-
  SameInts, SameBytes (of what is the same), CopyBytes; string(b).
-/
namespace Go.Proofs.YthkkdmblkalknaaGreatDoor
open Go.RowKit

theorem conv_str {B : Nat} {w : World} {a : Option Addr} {n : Nat} {zs : List Int} (h : Rd B w a n zs) (c : Nat) : (convert 23 9 (.slice a n c)).run Tryz.prog w = .ok (.string (strOfNums zs)) w := by
  obtain ⟨h1, h2, h3⟩ := h
  rcases h3 with rfl | ⟨b, off, rfl, hlt, hc⟩
  · obtain rfl : zs = [] := List.length_eq_zero_iff.1 h1
    cases a with
    | none => exact run_convert_bytes_nil w 23 5 Tryz.underlying23 Tryz.underlying5 0 c 9 Tryz.underlying9
    | some ad =>
      have hl : (loadCells ad 0).run Tryz.prog w = .ok ([].map (Value.int .u8)).toArray w := by simpa using run_loadCells_list (P := Tryz.prog) w ad [] (by simp)
      rw [run_convert_bytes_string w 23 9 5 _ 0 c Tryz.underlying23 Tryz.underlying5 Tryz.underlying9, run_bytesToString w ad 0 c [] hl]
      rfl
  · exact run_convert_bytes_arg w 23 5 Tryz.underlying23 Tryz.underlying5 b off n c zs h1 hc 9 Tryz.underlying9

end Go.Proofs.YthkkdmblkalknaaGreatDoor
/-
  ALL BUT SOME BLOCKS ARE AS THEY WERE; the lender's state. 
-/
namespace Go.Proofs.YthkkdmblkalknaaGreatDoor
open Go.RowKit

/-- every block that was there is as it was, but for those of X -/
structure But (X : Nat → Prop) (w w' : World) : Prop where
  os : w'.os = w.os
  tape : w'.tape = w.tape
  output : w'.output = w.output
  size : w.heap.size ≤ w'.heap.size
  block : ∀ k, k < w.heap.size → ¬ X k → w'.heap[k]? = w.heap[k]?

theorem But.refl (X : Nat → Prop) (w : World) : But X w w := ⟨rfl, rfl, rfl, Nat.le_refl _, fun _ _ _ => rfl⟩
theorem But.trans {X : Nat → Prop} {a b c : World} (h : But X a b) (k : But X b c) : But X a c :=
  ⟨k.os.trans h.os, k.tape.trans h.tape, k.output.trans h.output, Nat.le_trans h.size k.size, fun i hi hx => (k.block i (Nat.lt_of_lt_of_le hi h.size) hx).trans (h.block i hi hx)⟩
theorem But.mono {X Y : Nat → Prop} {w w' : World} (h : But X w w') (hX : ∀ k, k < w.heap.size → X k → Y k) : But Y w w' :=
  ⟨h.os, h.tape, h.output, h.size, fun k hk hy => h.block k hk (fun hx => hy (hX k hk hx))⟩
theorem But.drew {X : Nat → Prop} {a w : World} (h : But X a w) : But X a w.drew := ⟨h.os, h.tape, h.output, h.size, h.block⟩
theorem But.alloc {X : Nat → Prop} {a w : World} (h : But X a w) (o : Obj) : But X a (w.alloc o) :=
  h.trans ⟨rfl, rfl, rfl, by simp, fun k hk _ => Below.heap_alloc _ _ _ hk⟩
theorem But.setCell {X : Nat → Prop} {a w : World} (h : But X a w) {p : Addr} (hp : X p.block) (u : Value) : But X a (w.setCell p u) :=
  h.trans ⟨rfl, rfl, rfl, by simp [World.setCell], fun k _ hx => Below.heap_setCell _ _ _ _ (fun e => hx (e ▸ hp))⟩
theorem But.of_below {X : Nat → Prop} {w w' : World} (h : Below w.heap.size w w') : But X w w' := ⟨h.os, h.tape, h.output, h.size, fun k hk _ => h.block k hk⟩
theorem But.below {X : Nat → Prop} {w w' : World} (h : But X w w') {B : Nat} (hB : B ≤ w.heap.size) (hX : ∀ k, k < B → ¬ X k) : Below B w w' :=
  ⟨h.os, h.tape, h.output, h.size, fun k hk => h.block k (by omega) (hX k hk)⟩
theorem But.cell {X : Nat → Prop} {w w' : World} (h : But X w w') {p : Addr} (hp : p.block < w.heap.size) (hx : ¬ X p.block) : w'.cell? p = w.cell? p := World.cell?_of_block (w := w) (h.block p.block hp hx)
theorem Blk.but {k : IntKind} {e : TypeId} {X : Nat → Prop} {w w' : World} {g : Nat} {zs : List Int} (h : Blk k e w g zs) (hb : But X w w') (hg : ¬ X g) : Blk k e w' g zs := h.of_block (hb.block g h.lt hg)

/-- BYTES THAT ARE READ, in a block outside of X -/
def RdN (X : Nat → Prop) (w : World) (a : Option Addr) (n : Nat) (zs : List Int) : Prop :=
  zs.length = n ∧ Pl.isB zs ∧ (n = 0 ∨ ∃ b off, a = some ⟨b, off, none⟩ ∧ b < w.heap.size ∧ ¬ X b ∧ ∀ t, t < n → w.cell? ⟨b, off + t, none⟩ = some (.int .u8 (zs.getD t 0)))
theorem RdN.rd {X : Nat → Prop} {w : World} {a : Option Addr} {n : Nat} {zs : List Int} (h : RdN X w a n zs) : Rd w.heap.size w a n zs := by
  obtain ⟨h1, h2, h3⟩ := h
  refine ⟨h1, h2, ?_⟩
  rcases h3 with h3 | ⟨b, off, h4, h5, h6, h7⟩
  · exact .inl h3
  · exact .inr ⟨b, off, h4, h5, h7⟩
theorem RdN.but {X : Nat → Prop} {w w' : World} {a : Option Addr} {n : Nat} {zs : List Int} (h : RdN X w a n zs) (hb : But X w w') : RdN X w' a n zs := by
  obtain ⟨h1, h2, h3⟩ := h
  refine ⟨h1, h2, ?_⟩
  rcases h3 with h3 | ⟨b, off, h4, h5, h6, h7⟩
  · exact .inl h3
  · exact .inr ⟨b, off, h4, Nat.lt_of_lt_of_le h5 hb.size, h6, fun t ht => (hb.cell (by exact h5) (by exact h6)).trans (h7 t ht)⟩
theorem RdN.mono {X Y : Nat → Prop} {w : World} {a : Option Addr} {n : Nat} {zs : List Int} (h : RdN X w a n zs) (hX : ∀ k, k < w.heap.size → Y k → X k) : RdN Y w a n zs := by
  obtain ⟨h1, h2, h3⟩ := h
  refine ⟨h1, h2, ?_⟩
  rcases h3 with h3 | ⟨b, off, h4, h5, h6, h7⟩
  · exact .inl h3
  · exact .inr ⟨b, off, h4, h5, fun hy => h6 (hX b h5 hy), h7⟩
theorem RdN.of_rd {B : Nat} {X : Nat → Prop} {w : World} {a : Option Addr} {n : Nat} {zs : List Int} (h : Rd B w a n zs) (hB : B ≤ w.heap.size) (hX : ∀ k, k < B → ¬ X k) : RdN X w a n zs := by
  obtain ⟨h1, h2, h3⟩ := h
  refine ⟨h1, h2, ?_⟩
  rcases h3 with h3 | ⟨b, off, h4, h5, h7⟩
  · exact .inl h3
  · exact .inr ⟨b, off, h4, by omega, hX b h5, h7⟩
theorem RdN.of_blk {X : Nat → Prop} {w : World} {g : Nat} {zs : List Int} (h : Blk .u8 5 w g zs) (hb : Pl.isB zs) (hX : ¬ X g) : RdN X w (some ⟨g, 0, none⟩) zs.length zs :=
  ⟨rfl, hb, .inr ⟨g, 0, rfl, h.lt, hX, fun t ht => by rw [Nat.zero_add]; exact h.cell t ht⟩⟩

/-! ### the lender -/
/-- block L is a lender whose buffer is bv and whose number is N -/
def Lnd (w : World) (L : Nat) (bv : Value) (N : Int) : Prop := w.heap[L]? = some (.cells #[bv, .int .i64 N] 71 (0, 0))
theorem Lnd.lt {w : World} {L : Nat} {bv : Value} {N : Int} (h : Lnd w L bv N) : L < w.heap.size := (Array.getElem?_eq_some_iff.1 h).1
theorem Lnd.buf {w : World} {L : Nat} {bv : Value} {N : Int} (h : Lnd w L bv N) : w.cell? ⟨L, 0, none⟩ = some bv := by unfold Lnd at h; simp [World.cell?, h]
theorem Lnd.num {w : World} {L : Nat} {bv : Value} {N : Int} (h : Lnd w L bv N) : w.cell? ⟨L, 1, none⟩ = some (.int .i64 N) := by unfold Lnd at h; simp [World.cell?, h]
theorem Lnd.frozen {w : World} {L : Nat} {bv : Value} {N : Int} (h : Lnd w L bv N) (t : Nat) : w.frozen? ⟨L, t, none⟩ = false := by unfold Lnd at h; simp [World.frozen?, h]
theorem Lnd.of_block {w w' : World} {L : Nat} {bv : Value} {N : Int} (h : Lnd w L bv N) (hw : w'.heap[L]? = w.heap[L]?) : Lnd w' L bv N := by unfold Lnd at *; rw [hw]; exact h
theorem Lnd.setOther {w : World} {L : Nat} {bv : Value} {N : Int} (h : Lnd w L bv N) {p : Addr} (hp : L ≠ p.block) (u : Value) : Lnd (w.setCell p u) L bv N := h.of_block (Below.heap_setCell _ _ _ _ hp)
theorem Lnd.alloc {w : World} {L : Nat} {bv : Value} {N : Int} (h : Lnd w L bv N) (o : Obj) : Lnd (w.alloc o) L bv N := h.of_block (Below.heap_alloc _ _ _ h.lt)
theorem Lnd.setBuf {w : World} {L : Nat} {bv : Value} {N : Int} (h : Lnd w L bv N) (u : Value) : Lnd (w.setCell ⟨L, 0, none⟩ u) L u N := by
  unfold Lnd at *
  simp only [World.setCell, Array.getElem?_modify]
  rw [h]
  simp
theorem Lnd.setNum {w : World} {L : Nat} {bv : Value} {N : Int} (h : Lnd w L bv N) (u : Int) : Lnd (w.setCell ⟨L, 1, none⟩ (.int .i64 u)) L bv u := by
  unfold Lnd at *
  simp only [World.setCell, Array.getElem?_modify]
  rw [h]
  simp

/-- the mark at a place; what lies in the buffer -/
def mk (i : Nat) : Int := (203 - 5 * (i : Int)) % 256
def lent (zs : List Int) : List Int := zs ++ (List.range (zs.length + 70)).map fun i => mk (zs.length + i)
theorem length_lent (zs : List Int) : (lent zs).length = 2 * zs.length + 70 := by simp [lent]; omega
theorem lent_lo {zs : List Int} {k : Nat} (h : k < zs.length) : (lent zs).getD k 0 = zs.getD k 0 := by
  simp [lent, h, List.getElem?_append_left]
theorem lent_hi {zs : List Int} {k : Nat} (h : zs.length ≤ k) (h2 : k < 2 * zs.length + 70) : (lent zs).getD k 0 = mk k := by
  have h3 : k - zs.length < zs.length + 70 := by omega
  simp [lent, List.getElem?_append_right h, h3]
  congr 1
  omega
theorem isB_lent {zs : List Int} (h : Pl.isB zs) : Pl.isB (lent zs) := by
  refine Pl.isB_append.2 ⟨h, ?_⟩
  intro z hz
  simp only [List.mem_map] at hz
  obtain ⟨i, _, rfl⟩ := hz
  unfold mk
  omega
/-- one place more -/
theorem take_set {ys : List Int} {k : Nat} {z : Int} {l : List Int} (h : k < ys.length) (h2 : k < l.length) (he : ys.take k = l.take k) (hz : z = l.getD k 0) : (ys.set k z).take (k + 1) = l.take (k + 1) := by
  rw [take_snoc (L := l) h2, ← he, List.take_succ_eq_append_getElem (by simpa using h), List.take_set_of_le (Nat.le_refl _), hz]
  simp

set_option maxHeartbeats 400000 in
theorem mark_any (p : Value) (i : Nat) (w : World) (h : i ≤ 1073741824) :
    Calls Tryz.prog 96 #[p, .int .i64 (i : Int)] w fun e w' => e = .returned (.int .u8 (mk i)) ∧ w' = w := by
  go_enter Tryz.func96, Tryz.ntmps96
  go_wp2
  go_ret
  exact ⟨rfl, rfl⟩

end Go.Proofs.YthkkdmblkalknaaGreatDoor
