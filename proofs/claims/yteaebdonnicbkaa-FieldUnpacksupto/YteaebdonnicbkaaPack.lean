/-
  Pack.
-/
import Derived.Test.YteaebdonnicbkaaChk
namespace Go.Proofs.Yteaebdonnicbkaa
open Go.RowKit

theorem hid {p : Prop} (h : p) : Hid p := h
/-- the fields' bytes; the first error -/
def packZ (fs : List (Int × Int)) : List Int := fs.flatMap fun f => Pl.dig f.2 f.1.toNat
def okF (fs : List (Int × Int)) : Prop := ∀ f ∈ fs, chk f.1 f.2 = 0

theorem chk_zero {x v : Int} (h : chk x v = 0) : 1 ≤ x ∧ x ≤ 8 ∧ 0 ≤ v ∧ v < 256 ^ x.toNat := by
  unfold chk at h
  split at h
  · cases h
  · split at h
    · cases h
    · rename_i h1 h2
      simp [wfB] at h1
      simp at h2
      omega
theorem packZ_snoc (fs : List (Int × Int)) (x v : Int) : packZ (fs ++ [(x, v)]) = packZ fs ++ Pl.dig v x.toNat := by simp [packZ]
theorem takeF {fs : List (Int × Int)} {k : Nat} (h : k < fs.length) : fs.take (k + 1) = fs.take k ++ [fs.getD k (0, 0)] := by
  rw [List.take_succ_eq_append_getElem h]; simp [h]
theorem okF_le {fs : List (Int × Int)} (h : okF fs) : (packZ fs).length ≤ 8 * fs.length := by
  induction fs with
  | nil => simp [packZ]
  | cons f r ih =>
    have h1 := chk_zero (h f (by simp))
    have h2 := ih fun g hg => h g (by simp [hg])
    simp only [packZ, List.flatMap_cons, List.length_append, Pl.length_dig, List.length_cons] at *
    omega
theorem isB_packZ (fs : List (Int × Int)) : Pl.isB (packZ fs) := by
  induction fs with
  | nil => exact Pl.isB_nil
  | cons f r ih => simp only [packZ, List.flatMap_cons]; exact Pl.isB_append.2 ⟨Pl.isB_dig _ _, ih⟩

/-- one field more -/
theorem packZ_part (fs : List (Int × Int)) (k : Nat) (h : k < fs.length) :
    (packZ (fs.take (k + 1))).length = (packZ (fs.take k)).length + (fs.getD k (0, 0)).1.toNat ∧ (packZ (fs.take k)).length + (fs.getD k (0, 0)).1.toNat ≤ (packZ fs).length ∧
    splice (packZ (fs.take k) ++ zeros ((packZ fs).length - (packZ (fs.take k)).length)) (packZ (fs.take k)).length (Pl.dig (fs.getD k (0, 0)).2 (fs.getD k (0, 0)).1.toNat) =
      packZ (fs.take (k + 1)) ++ zeros ((packZ fs).length - (packZ (fs.take (k + 1))).length) := by
  generalize hf : fs.getD k (0, 0) = f
  obtain ⟨x, v⟩ := f
  have h1 : packZ (fs.take (k + 1)) = packZ (fs.take k) ++ Pl.dig v x.toNat := by rw [takeF h, hf, packZ_snoc]
  have h2 : packZ fs = packZ (fs.take (k + 1)) ++ packZ (fs.drop (k + 1)) := by
    unfold packZ
    rw [← List.flatMap_append, List.take_append_drop]
  have h3 : (packZ fs).length = (packZ (fs.take k)).length + x.toNat + (packZ (fs.drop (k + 1))).length := by rw [h2, h1]; simp [Pl.length_dig]; omega
  refine ⟨by rw [h1]; simp [Pl.length_dig], by show _ + x.toNat ≤ _; omega, ?_⟩
  rw [h1, h3]
  generalize packZ (fs.take k) = A
  have e : A.length + x.toNat + (packZ (fs.drop (k + 1))).length - A.length = x.toNat + (packZ (fs.drop (k + 1))).length := by omega
  have e2 : A.length + x.toNat + (packZ (fs.drop (k + 1))).length - (A ++ Pl.dig v x.toNat).length = (packZ (fs.drop (k + 1))).length := by rw [List.length_append, Pl.length_dig]; omega
  rw [e, e2, zeros_add]
  unfold splice
  rw [List.take_left, Pl.length_dig, List.drop_append, List.drop_of_length_le (by omega), List.nil_append, show A.length + x.toNat - A.length = (zeros x.toNat).length by rw [length_zeros]; omega, List.drop_left, List.append_assoc]

/-- FIELDS THAT ARE READ, below block B (of none of them nothing is known) -/
def RdF (B : Nat) (w : World) (a : Option Addr) (m : Nat) (fs : List (Int × Int)) : Prop :=
  fs.length = m ∧ (∀ f ∈ fs, -9223372036854775808 ≤ f.2 ∧ f.2 ≤ 9223372036854775807) ∧ (m = 0 ∨ ∃ b off, a = some ⟨b, off, none⟩ ∧ b < B ∧
    ∀ t, t < m → w.cell? ⟨b, off + t * 2, none⟩ = some (.int .i64 (fs.getD t (0, 0)).1) ∧ w.cell? ⟨b, off + t * 2 + 1, none⟩ = some (.int .i64 (fs.getD t (0, 0)).2))

set_option maxRecDepth 100000 in
set_option maxHeartbeats 1000000 in
theorem Pack_ok (a : Option Addr) (m c : Nat) (fs : List (Int × Int)) (w : World) (hm : m ≤ 16777216) (hR : RdF w.heap.size w a m fs) (hok : okF fs) :
    Calls Try.prog 17 #[.slice a m c] w fun e w' => ∃ g, e = .returned (.tuple #[.slice (some ⟨g, 0, none⟩) (packZ fs).length (packZ fs).length, .int .i64 0]) ∧ w.heap.size ≤ g ∧ Blk .u8 5 w' g (packZ fs) ∧ Below w.heap.size w w' := by
  obtain ⟨hl, hv, h3⟩ := hR
  go_enter Try.func17, Try.ntmps17
  go_wp2
  go_loopw [4, 14] (fun s i wr => ∃ k : Nat, k ≤ m ∧ i = .int .i64 (k : Int) ∧ s = .int .i64 ((packZ (fs.take k)).length : Int) ∧ Below w.heap.size w wr) (fun _ i _ => m - (intOf i).toNat)
  case atStart => exact ⟨0, Nat.zero_le _, rfl, rfl, Below.refl _ _⟩
  case round =>
    obtain ⟨k, hk, rfl, rfl, hbr⟩ := hrel
    by_cases hkm : k < m
    · obtain ⟨b, off, rfl, hb, hc⟩ := h3.resolve_left (by omega)
      obtain ⟨x, hx⟩ : ∃ x, x = (fs.getD k (0, 0)).1 := ⟨_, rfl⟩
      obtain ⟨v, hv'⟩ : ∃ v, v = (fs.getD k (0, 0)).2 := ⟨_, rfl⟩
      have hmem : fs.getD k (0, 0) ∈ fs := by
        have : k < fs.length := by omega
        simp [this]
      have hck := hok _ hmem
      have hvb := hv _ hmem
      obtain ⟨hcx, hcv⟩ := hc k hkm
      rw [← hx] at hcx hck
      rw [← hv'] at hcv hck hvb
      have hcx' := (hbr.cell (p := ⟨b, off + k * 2, none⟩) (by exact hb)).trans hcx
      have hcv' := (hbr.cell (p := ⟨b, off + k * 2 + 1, none⟩) (by exact hb)).trans hcv
      obtain ⟨x1, x2, _, _⟩ := chk_zero hck
      have hle := okF_le (fs := fs.take k) (fun f hf => hok f (List.mem_of_mem_take hf))
      have hnx : (packZ (fs.take (k + 1))).length = (packZ (fs.take k)).length + x.toNat := by
        rw [takeF (by omega), show fs.getD k (0, 0) = (x, v) from by rw [hx, hv'], packZ_snoc, List.length_append, Pl.length_dig]
      have HN := hid hnx
      rw [List.length_take] at hle
      have hle2 : (packZ (fs.take k)).length ≤ 134217728 := by omega
      clear hle hnx hx hv' hmem hcx hcv
      generalize (packZ (fs.take k)).length = pl at *
      go_wp2_with fail
      refine (checkField_any x v _ hvb.1 hvb.2).mono ?_
      rintro e w1 ⟨rfl, rfl⟩
      rw [hck]
      go_wp2
      go_roundw
      case rel => exact ⟨k + 1, by omega, by go_num, by rw [HN.out]; congr 1; omega, (hbr.alloc hbr.size _).alloc (by have := hbr.size; simp; omega) _⟩
      case measure => simp [intOf]; omega
    · have e : fs.take k = fs := List.take_of_length_le (by omega)
      rw [e]
      have hle := okF_le hok
      have hle2 : (packZ fs).length ≤ 134217728 := by omega
      have hmk := make_u8 (packZ fs).length (by omega)
      have hB0 := Blk.new (k := .u8) (e := 5) wr (zeros (packZ fs).length)
      have HB0 := hid hB0
      clear e hle hB0
      have hg : w.heap.size ≤ wr.heap.size := hbr.size
      have hb0 : Below w.heap.size w (wr.alloc (.cells ((zeros (packZ fs).length).map (Value.int .u8)).toArray 5)) := hbr.alloc hbr.size _
      have Hb0 := hid hb0
      clear hbr hb0
      go_wp2
      generalize wr.heap.size = g at *
      go_loopw [9, 32] (fun s i wt => ∃ k : Nat, k ≤ m ∧ i = .int .i64 (k : Int) ∧ s = .int .i64 ((packZ (fs.take k)).length : Int) ∧ Blk .u8 5 wt g (packZ (fs.take k) ++ zeros ((packZ fs).length - (packZ (fs.take k)).length)) ∧ Below w.heap.size w wt) (fun _ i _ => m - (intOf i).toNat)
      case atStart => exact ⟨0, Nat.zero_le _, rfl, rfl, by rw [List.take_zero]; exact HB0.out, Hb0.out⟩
      case round =>
        clear HB0 Hb0 hmk hkm
        obtain ⟨k, hk, rfl, rfl, hBk, hbt⟩ := hrel
        by_cases hkm : k < m
        · obtain ⟨b, off, rfl, hb, hc⟩ := h3.resolve_left (by omega)
          obtain ⟨x, hx⟩ : ∃ x, x = (fs.getD k (0, 0)).1 := ⟨_, rfl⟩
          obtain ⟨v, hv'⟩ : ∃ v, v = (fs.getD k (0, 0)).2 := ⟨_, rfl⟩
          have hmem : fs.getD k (0, 0) ∈ fs := by
            have : k < fs.length := by omega
            simp [this]
          have hck := hok _ hmem
          have hvb := hv _ hmem
          obtain ⟨hcx, hcv⟩ := hc k hkm
          rw [← hx] at hcx hck
          rw [← hv'] at hcv hck hvb
          obtain ⟨x1, x2, v1, v2⟩ := chk_zero hck
          obtain ⟨X, rfl⟩ := Int.eq_ofNat_of_zero_le (show 0 ≤ x by omega)
          have hcx' := (hbt.cell (p := ⟨b, off + k * 2, none⟩) (by exact hb)).trans hcx
          have hcv' := (hbt.cell (p := ⟨b, off + k * 2 + 1, none⟩) (by exact hb)).trans hcv
          have hz := packZ_part fs k (by omega)
          rw [show fs.getD k (0, 0) = ((X : Int), v) from by rw [hx, hv']] at hz
          obtain ⟨z1, z2, z3⟩ := hz
          simp only [Int.toNat_natCast] at z1 z2 z3
          have HN := hid z1
          have HZ := hid z3
          have HB := hid hBk
          have hlen : (packZ (fs.take k) ++ zeros ((packZ fs).length - (packZ (fs.take k)).length)).length = (packZ fs).length := by rw [List.length_append, length_zeros]; omega
          have HL := hid hlen
          obtain ⟨v3, v4⟩ := hvb
          clear hx hv' hmem hcx hcv hBk z1 z3 hlen hck v2
          generalize hpl : (packZ (fs.take k)).length = pl at *
          generalize hn : (packZ fs).length = n at *
          clear hpl hn
          have hne : ¬ n = pl := by omega
          obtain ⟨P, hP⟩ : ∃ P, P = pl + X := ⟨_, rfl⟩
          have ew : IntKind.i64.wrap ((pl : Int) + (X : Int)) = (P : Int) := by rw [IntKind.wrap_i64]; omega
          have hP1 : pl ≤ P := by omega
          have hP2 : (P : Int) ≤ (n : Int) := by omega
          have hP3 : Hid (P = pl + X) := hP
          clear hP
          have hB2 : Blk .u8 5 (wr.alloc (.cells #[.int .i64 (X : Int), .int .i64 v] 38)).drew g (packZ (fs.take k) ++ zeros (n - pl)) := (HB.out.alloc _).drew
          have hput := putNumber_any g pl X (n - pl) v _ _ (by omega) v1 (by omega) hB2 (by rw [HL.out]; omega)
          rw [HZ.out] at hput
          have HP : Hid (Calls Try.prog 33 #[.slice (some ⟨g, pl, none⟩) (P - pl) (n - pl), .int .u64 (IntKind.u64.wrap v)] (wr.alloc (.cells #[.int .i64 (X : Int), .int .i64 v] 38)).drew fun e w' => e = .returned (.tuple #[]) ∧
              w'.heap.size = (wr.alloc (.cells #[.int .i64 (X : Int), .int .i64 v] 38)).drew.heap.size ∧ (wr.alloc (.cells #[.int .i64 (X : Int), .int .i64 v] 38)).drew.grownBy w' (some g) ∧ Blk .u8 5 w' g (packZ (fs.take (k + 1)) ++ zeros (n - (packZ (fs.take (k + 1))).length))) := by
            show Calls _ _ _ _ _
            rw [show P - pl = X from by rw [hP3.out]; omega, show IntKind.u64.wrap v = v from by rw [IntKind.wrap_u64]; omega]
            exact hput
          clear hput hB2
          have hbt2 : Below w.heap.size w (wr.alloc (.cells #[.int .i64 (X : Int), .int .i64 v] 38)).drew := (hbt.alloc hbt.size _).drew
          have hgne : some wr.heap.size ≠ some g := by intro h; have h1 := HB.out.lt; have h2 := Option.some.inj h; omega
          go_wp2_with fail
          go_region_with (go_at_call 33; refine Calls.mono HP.out ?_; rintro e w1 ⟨rfl, hs1, hg1, hB1⟩; (have hb1 : Below w.heap.size w w1 := hbt2.grown hg1 hbt2.size (fun k h => by cases h; exact hg); have hcw : w1.cell? ⟨wr.heap.size, 0, none⟩ = some (.int .i64 (X : Int)) := hg1.cell (by simp) hgne; clear hs1 hg1))
          all_goals have HB1 := hid hB1
          all_goals clear hB1
          all_goals go_wp2
          all_goals
            go_roundw
            case rel => exact ⟨k + 1, by omega, by go_num, by rw [HN.out, hP3.out], HB1.out, by assumption⟩
            case measure => simp [intOf]; omega
        · have e : fs.take k = fs := List.take_of_length_le (by omega)
          rw [e, Nat.sub_self] at hBk
          rw [show packZ fs ++ zeros 0 = packZ fs from by simp [zeros]] at hBk
          have HB := hid hBk
          clear hBk
          go_wp2
          go_ret2
          exact ⟨g, rfl, hg, HB.out, hbt⟩

end Go.Proofs.Yteaebdonnicbkaa
