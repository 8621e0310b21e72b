/-
  Stamp.
-/
import Derived.Test.YteaebdonnicbkaaStp
namespace Go.Proofs.Yteaebdonnicbkaa
open Go.RowKit

/-- the block with zeros in the sum's place; the stamped block -/
def bareZ (kind seq : Int) (body : List Int) : List Int := kind :: (Pl.dig (body.length : Int) 2 ++ (Pl.dig seq 8 ++ ([0, 0, 0, 0] ++ (body ++ zeros (497 - body.length)))))
def stampZ (kind seq : Int) (body : List Int) : List Int := splice (bareZ kind seq body) 11 (Pl.dig (crc (bareZ kind seq body)) 4)

theorem crc_bd {L : List Int} (h : Pl.isB L) : 0 ≤ crc L ∧ crc L < 4294967296 := by
  have h1 : 4294967295 ^^^ reg L < 2 ^ 32 := Nat.xor_lt_two_pow (n := 32) (by decide) (reg_lt h)
  unfold crc
  omega

theorem isB_set {L : List Int} (h : Pl.isB L) (i : Nat) {x : Int} (hx : 0 ≤ x ∧ x < 256) : Pl.isB (L.set i x) := by
  intro z hz
  rcases List.mem_or_eq_of_mem_set hz with h1 | rfl
  · exact h z h1
  · exact hx
theorem isB_four : Pl.isB [0, 0, 0, 0] := by intro z hz; simp at hz; omega
theorem zeros_add (m n : Nat) : zeros (m + n) = zeros m ++ zeros n := by simp [zeros, List.replicate_append_replicate]
theorem zeros_drop (m n : Nat) : (zeros m).drop n = zeros (m - n) := by simp [zeros]
theorem bare_zero (kind seq : Int) (body : List Int) : splice (bareZ kind seq body) 11 [0, 0, 0, 0] = bareZ kind seq body := by
  simp [bareZ, splice, Pl.dig]
theorem bare_eq (kind seq : Int) (body : List Int) :
    splice (splice (splice ((zeros 512).set 0 kind) 1 (Pl.dig (body.length : Int) 2)) 3 (Pl.dig seq 8)) 15 body = kind :: (Pl.dig (body.length : Int) 2 ++ (Pl.dig seq 8 ++ ([0, 0, 0, 0] ++ (body ++ zeros (497 - body.length))))) := by
  have e : (zeros 512).set 0 kind = kind :: ([0, 0] ++ ([0, 0, 0, 0, 0, 0, 0, 0] ++ ([0, 0, 0, 0] ++ zeros 497))) := by
    rw [show (512 : Nat) = 15 + 497 from rfl, zeros_add]
    rfl
  have hd := zeros_drop 497 body.length
  generalize zeros (497 - body.length) = Z1 at *
  generalize zeros 497 = Z0 at *
  rw [e]
  simp [splice, Pl.dig, hd, Nat.add_comm]

set_option maxRecDepth 100000 in
set_option maxHeartbeats 1000000 in
theorem Stamp_ok (kind seq : Int) (a : Option Addr) (n c : Nat) (body : List Int) (w : World) (k1 : 1 ≤ kind) (k2 : kind ≤ 255) (s1 : 0 ≤ seq) (s2 : seq ≤ 1099511627776) (hn : n ≤ 497) (hR : Rd w.heap.size w a n body) :
    Calls Try.prog 11 #[.int .i64 kind, .int .i64 seq, .slice a n c] w fun e w' => e = .returned (.tuple #[.slice (some ⟨w.heap.size, 0, none⟩) 512 512, .int .i64 0]) ∧ Blk .u8 5 w' w.heap.size (stampZ kind seq body) ∧ Below w.heap.size w w' := by
  obtain ⟨i0, hi, hz0, hz1, hz2⟩ := info_parts info5
  go_enter Try.func11, Try.ntmps11
  go_wp2_with (at_make; refine wpList_make_full _ rfl _ _ 22 rfl w.heap.size 5 i0 (.int .u8 0) 1 Try.underlying22 hi hz0 hz1 _ _ _ _ 512 rfl rfl rfl rfl ?b2 ?b3 (Nat.le_refl _) ?_)
  case b2 => rw [hz2]; decide
  case b3 => decide
  intro w0 hown hgrow
  have hB0 : Blk .u8 5 w0 w.heap.size (zeros 512) := Blk.of_owns hown (by show (madeCells #[Value.int .u8 0] (512 * 1)).toList = _; rw [made_zeros])
  have hb0 : Below w.heap.size w w0 := (Below.refl _ _).grown hgrow (Nat.le_refl _) (fun k h => by cases h)
  clear hown hgrow
  have c0 := hB0.cell 0 (by rw [length_zeros]; decide)
  have f0 := hB0.frozen 0
  have hB1 := hB0.set 0 kind
  have hb1 : Below w.heap.size w (w0.setCell ⟨w.heap.size, 0, none⟩ (.int .u8 kind)) := hb0.setCell (Nat.le_refl _) _
  have HB : Hid (Blk .u8 5 (w0.setCell ⟨w.heap.size, 0, none⟩ (.int .u8 kind)) w.heap.size ((zeros 512).set 0 kind)) := hB1
  clear hB1 hB0
  have hsz1 : (w0.setCell ⟨w.heap.size, 0, none⟩ (.int .u8 kind)).heap.size = w0.heap.size := by simp [World.setCell]
  go_wp2_with fail
  refine (putNumber_any _ 1 2 _ n ((zeros 512).set 0 kind) _ (by decide) (by omega) (by omega) HB.out (by simp [length_zeros])).mono ?_
  rintro e w1 ⟨rfl, hs1, hg1, hB1⟩
  have hb2 : Below w.heap.size w w1 := hb1.grown hg1 hb1.size (fun k h => by cases h; exact Nat.le_refl _)
  clear hg1 hs1 hb1 HB c0 f0
  have HB1 : Hid (Blk .u8 5 w1 w.heap.size (splice ((zeros 512).set 0 kind) 1 (Pl.dig n 2))) := hB1
  clear hB1
  go_wp2_with fail
  refine (putNumber_any _ 3 8 _ seq _ _ (by decide) (by omega) (by omega) HB1.out (by rw [length_splice _ _ _ (by simp [length_zeros, Pl.length_dig])]; simp [length_zeros])).mono ?_
  rintro e w2 ⟨rfl, hs2, hg2, hB2⟩
  have hb3 : Below w.heap.size w w2 := hb2.grown hg2 hb2.size (fun k h => by cases h; exact Nat.le_refl _)
  clear hg2 hs2 hb2 HB1
  obtain ⟨Y, hY⟩ : ∃ Y, Y = splice (splice ((zeros 512).set 0 kind) 1 (Pl.dig n 2)) 3 (Pl.dig seq 8) := ⟨_, rfl⟩
  rw [← hY] at hB2
  have HY : Hid (Y = splice (splice ((zeros 512).set 0 kind) 1 (Pl.dig n 2)) 3 (Pl.dig seq 8)) := hY
  clear hY
  have HB2 : Hid (Blk .u8 5 w2 w.heap.size Y) := hB2
  clear hB2
  have hYl : Hid (Y.length = 512) := by
    show _ = _
    rw [HY.out, length_splice, length_splice] <;> (try rw [length_splice]) <;> simp [length_zeros, Pl.length_dig]
  obtain ⟨w3, hcp, hB3, hs3, hg3⟩ := copy_u8 w.heap.size 15 497 497 a n c Y body w2 w.heap.size HB2.out (hR.below hb3) hn (by rw [hYl.out]; omega)
  have hb4 : Below w.heap.size w w3 := hb3.grown hg3 hb3.size (fun k h => by cases h; exact Nat.le_refl _)
  have HB3 : Hid (Blk .u8 5 w3 w.heap.size (splice Y 15 body)) := hB3
  clear hB3 hs3 hg3 HB2 hb3
  have hlen : (splice Y 15 body).length = 512 := by rw [length_splice _ _ _ (by rw [hYl.out, hR.1]; omega), hYl.out]
  have hYb : Pl.isB Y := by rw [HY.out]; exact isB_splice (isB_splice (isB_set (isB_zeros _) _ (by omega)) (Pl.isB_dig _ _) _) (Pl.isB_dig _ _) _
  have hXb : Pl.isB (splice Y 15 body) := isB_splice hYb hR.2.1 _
  have hfin : Hid (splice Y 15 body = bareZ kind seq body) := by
    show _ = _
    rw [HY.out, bareZ, ← hR.1]
    exact bare_eq kind seq body
  have hfin2 : Hid (splice (splice Y 15 body) 11 [0, 0, 0, 0] = bareZ kind seq body) := by
    show _ = _
    rw [hfin.out]
    exact bare_zero kind seq body
  clear HY hYl hYb
  generalize splice Y 15 body = X at *
  obtain ⟨hcb1, hcb2⟩ := crc_bd (isB_splice hXb (isB_four) 11)
  have hg3 : w.heap.size < w3.heap.size := HB3.out.lt
  have e64 : IntKind.u64.wrap (crc (splice X 11 [0, 0, 0, 0])) = crc (splice X 11 [0, 0, 0, 0]) := by rw [IntKind.wrap_u64]; omega
  generalize hC : crc (splice X 11 [0, 0, 0, 0]) = C at *
  have HC : Hid (crc (splice X 11 [0, 0, 0, 0]) = C) := hC
  clear hC
  have hst := stampSum_any w.heap.size 0 512 X w3.drew hlen hXb hg3 (by decide) (by intro t ht; rw [Nat.zero_add]; exact HB3.out.drew.cell t (by rw [hlen]; exact ht))
  rw [HC.out] at hst
  have HST : Hid _ := hst
  clear hst
  go_wp2_with fail
  go_region_with (first
    | (go_at_call 34; refine Calls.mono HST.out ?_; rintro e w4 ⟨rfl, hb5⟩; have hB4 : Hid (Blk .u8 5 w4 w.heap.size X) := Blk.below (w := w3.drew) HB3.out.drew hb5 hg3; have hb6 : Below w.heap.size w w4 := (hb4.drew).trans (hb5.mono (Nat.le_of_lt hg3)))
    | (go_at_call 33; (refine (putNumber_any w.heap.size 11 4 501 C X w4 (by decide) (by omega) (by omega) (by exact hB4.out) (by rw [hlen]; decide)).mono ?_; rintro e w5 ⟨rfl, hs5, hg5, hB5⟩; have hb7 : Below w.heap.size w w5 := hb6.grown hg5 hb6.size (fun k h => by cases h; exact Nat.le_refl _))))
  all_goals go_wp2
  all_goals go_ret2
  all_goals
    refine ⟨rfl, ?_, by assumption⟩
    have eC : crc (bareZ kind seq body) = C := by rw [← hfin2.out]; exact HC.out
    rw [stampZ, eC, ← hfin.out]
    assumption

set_option maxRecDepth 100000 in
set_option maxHeartbeats 400000 in
theorem Stamp_kind (kind seq : Int) (a : Option Addr) (n c : Nat) (w : World) (h : kind < 1 ∨ 255 < kind) :
    Calls Try.prog 11 #[.int .i64 kind, .int .i64 seq, .slice a n c] w fun e w' => e = .returned (.tuple #[.slice none 0 0, .int .i64 13]) ∧ w' = w := by
  rcases h with h | h
  · go_enter Try.func11, Try.ntmps11
    go_wp2
    go_ret2
    exact ⟨rfl, rfl⟩
  · have h' : 1 ≤ kind := by omega
    go_enter Try.func11, Try.ntmps11
    go_wp2
    go_ret2
    exact ⟨rfl, rfl⟩
set_option maxRecDepth 100000 in
set_option maxHeartbeats 400000 in
theorem Stamp_seq (kind seq : Int) (a : Option Addr) (n c : Nat) (w : World) (k1 : 1 ≤ kind) (k2 : kind ≤ 255) (h : seq < 0 ∨ 1099511627776 < seq) :
    Calls Try.prog 11 #[.int .i64 kind, .int .i64 seq, .slice a n c] w fun e w' => e = .returned (.tuple #[.slice none 0 0, .int .i64 14]) ∧ w' = w := by
  rcases h with h | h
  · go_enter Try.func11, Try.ntmps11
    go_wp2
    go_ret2
    exact ⟨rfl, rfl⟩
  · have h' : 0 ≤ seq := by omega
    go_enter Try.func11, Try.ntmps11
    go_wp2
    go_ret2
    exact ⟨rfl, rfl⟩
set_option maxRecDepth 100000 in
set_option maxHeartbeats 400000 in
theorem Stamp_long (kind seq : Int) (a : Option Addr) (n c : Nat) (w : World) (k1 : 1 ≤ kind) (k2 : kind ≤ 255) (s1 : 0 ≤ seq) (s2 : seq ≤ 1099511627776) (h : 497 < n) :
    Calls Try.prog 11 #[.int .i64 kind, .int .i64 seq, .slice a n c] w fun e w' => e = .returned (.tuple #[.slice none 0 0, .int .i64 15]) ∧ w' = w := by
  go_enter Try.func11, Try.ntmps11
  go_wp2
  go_ret2
  exact ⟨rfl, rfl⟩

end Go.Proofs.Yteaebdonnicbkaa
