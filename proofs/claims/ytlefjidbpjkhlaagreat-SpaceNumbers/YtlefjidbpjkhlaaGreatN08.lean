import Derived.Test.YtlefjidbpjkhlaaGreatN07
import Derived.Test.YtlefjidbpjkhlaaGreatN00
namespace Go.Proofs.YtlefjidbpjkhlaaGreat
open Go.RowKit
theorem cat3 (zs : List Int) : cat (fun t => if t = 0 then zs.take 11 else if t = 1 then zeros 4 else zs.drop 15) 3 = splice zs 11 [0, 0, 0, 0] := by
 simp [cat, splice, zeros, List.replicate]
theorem parts3 (b off cap : Nat) (zs : List Int) (w : World) (hz : zs.length = 512) (hzb : Pl.isB zs) (hb : b < w.heap.size)
  (hc : ∀ t, t < 512 → w.cell? ⟨b, off + t, none⟩ = some (.int .u8 (zs.getD t 0))) :
  Calls Tryz.prog 237 #[.slice (some ⟨w.heap.size + 1, 0, none⟩) 3 3] ((w.alloc (.cells ((zeros 4).map (Value.int .u8)).toArray 5)).alloc (.cells #[.slice (some ⟨b, off, none⟩) 11 cap, .slice (some ⟨w.heap.size, 0, none⟩) 4 4, .slice (some ⟨b, off + 15, none⟩) 497 (cap - 15)] 65)).drew
   fun e w' => e = .returned (.int .u32 (crc (splice zs 11 [0, 0, 0, 0]))) ∧ Below w.heap.size w w' := by
 have hb1 : Below w.heap.size w ((w.alloc (.cells ((zeros 4).map (Value.int .u8)).toArray 5)).alloc (.cells #[.slice (some ⟨b, off, none⟩) 11 cap, .slice (some ⟨w.heap.size, 0, none⟩) 4 4, .slice (some ⟨b, off + 15, none⟩) 497 (cap - 15)] 65)).drew := (two_below w _ _).drew
 have hz4 : Blk .u8 5 ((w.alloc (.cells ((zeros 4).map (Value.int .u8)).toArray 5)).alloc (.cells #[.slice (some ⟨b, off, none⟩) 11 cap, .slice (some ⟨w.heap.size, 0, none⟩) 4 4, .slice (some ⟨b, off + 15, none⟩) 497 (cap - 15)] 65)).drew w.heap.size (zeros 4) := ((Blk.new w (zeros 4)).alloc _).drew
 have hsz : ((w.alloc (.cells ((zeros 4).map (Value.int .u8)).toArray 5)).alloc (.cells #[.slice (some ⟨b, off, none⟩) 11 cap, .slice (some ⟨w.heap.size, 0, none⟩) 4 4, .slice (some ⟨b, off + 15, none⟩) 497 (cap - 15)] 65)).drew.heap.size = w.heap.size + 2 := by simp
 have hcells : ∀ t, t < 3 → ((w.alloc (.cells ((zeros 4).map (Value.int .u8)).toArray 5)).alloc (.cells #[.slice (some ⟨b, off, none⟩) 11 cap, .slice (some ⟨w.heap.size, 0, none⟩) 4 4, .slice (some ⟨b, off + 15, none⟩) 497 (cap - 15)] 65)).drew.cell? ⟨w.heap.size + 1, 0 + t, none⟩ =
   some (.slice (if t = 0 then some ⟨b, off, none⟩ else if t = 1 then some ⟨w.heap.size, 0, none⟩ else some ⟨b, off + 15, none⟩) (if t = 0 then 11 else if t = 1 then 4 else 497) (if t = 0 then cap else if t = 1 then 4 else cap - 15)) := by
  intro t ht
  rcases (show t = 0 ∨ t = 1 ∨ t = 2 from by omega) with rfl | rfl | rfl <;> simp
 generalize ((w.alloc (.cells ((zeros 4).map (Value.int .u8)).toArray 5)).alloc (.cells #[.slice (some ⟨b, off, none⟩) 11 cap, .slice (some ⟨w.heap.size, 0, none⟩) 4 4, .slice (some ⟨b, off + 15, none⟩) 497 (cap - 15)] 65)).drew = W at *
 have hcW : ∀ t, t < 512 → W.cell? ⟨b, off + t, none⟩ = some (.int .u8 (zs.getD t 0)) := fun t ht => (hb1.cell (by exact hb)).trans (hc t ht)
 refine (sumOf_any _ _ 3 _ (fun t => if t = 0 then some ⟨b, off, none⟩ else if t = 1 then some ⟨w.heap.size, 0, none⟩ else some ⟨b, off + 15, none⟩) (fun t => if t = 0 then 11 else if t = 1 then 4 else 497) (fun t => if t = 0 then cap else if t = 1 then 4 else cap - 15)
  (fun t => if t = 0 then zs.take 11 else if t = 1 then zeros 4 else zs.drop 15) W (by decide) (by omega) ?_ hcells ?_).mono ?_
 ·intro t ht
  rcases (show t = 0 ∨ t = 1 ∨ t = 2 from by omega) with rfl | rfl | rfl <;> simp
 ·intro t ht
  rcases (show t = 0 ∨ t = 1 ∨ t = 2 from by omega) with rfl | rfl | rfl
  ·refine ⟨by simp; omega, Pl.isB_take hzb _, .inr ⟨b, off, rfl, by omega, fun t ht => ?_⟩⟩
   rw [hcW t (by simp at ht; omega)]
   simp at ht
   simp [List.getElem?_take_of_lt ht]
  ·refine ⟨by simp [zeros], isB_zeros 4, .inr ⟨w.heap.size, 0, rfl, by omega, fun t ht => ?_⟩⟩
   have h := hz4.cell t (by simp at ht; simpa [zeros] using ht)
   simpa using h
  ·refine ⟨by simp; omega, Pl.isB_drop hzb _, .inr ⟨b, off + 15, rfl, by omega, fun t ht => ?_⟩⟩
   have h := hcW (15 + t) (by simp at ht; omega)
   rw [show off + 15 + t = off + (15 + t) by omega, h]
   simp
 ·rintro e w' ⟨rfl, hb2⟩
  exact ⟨by rw [cat3], hb1.trans (hb2.mono (by omega))⟩
set_option maxRecDepth 100000 in
set_option maxHeartbeats 400000 in
theorem stampSum_any (b off cap : Nat) (zs : List Int) (w : World) (hz : zs.length = 512) (hzb : Pl.isB zs) (hb : b < w.heap.size) (hcap : 512 ≤ cap)
  (hc : ∀ t, t < 512 → w.cell? ⟨b, off + t, none⟩ = some (.int .u8 (zs.getD t 0))) :
  Calls Tryz.prog 224 #[.slice (some ⟨b, off, none⟩) 512 cap] w fun e w' => e = .returned (.int .u32 (crc (splice zs 11 [0, 0, 0, 0]))) ∧ Below w.heap.size w w' := by
 have hmk : ∀ u : World, (Instr.makeSlice 65 (.int .i64 4) (.int .i64 4)).run Tryz.prog u = .ok (.slice (some ⟨u.heap.size, 0, none⟩) 4 4) (u.alloc (.cells ((zeros 4).map (Value.int .u8)).toArray 5)) := make_u8 4 (by decide)
 go_enter Tryz.func224, Tryz.ntmps224
 go_wp2_with fail
 go_region_with (go_at_call 237; refine (parts3 b off cap zs w hz hzb hb hc).mono ?_; rintro e w' ⟨rfl, hb2⟩)
 all_goals go_wp2
 all_goals go_ret
 all_goals exact ⟨rfl, by assumption⟩
open Go.RowKit
def bareZ (kind seq : Int) (body : List Int) : List Int := kind :: (Pl.dig (body.length : Int) 2 ++ (Pl.dig seq 8 ++ ([0, 0, 0, 0] ++ (body ++ zeros (497 - body.length)))))
def stampZ (kind seq : Int) (body : List Int) : List Int := splice (bareZ kind seq body) 11 (Pl.dig (crc (bareZ kind seq body)) 4)
theorem crc_bd {L : List Int} (h : Pl.isB L) : 0 ≤ crc L ∧ crc L < 4294967296 := by
 have h1 : 4294967295 ^^^ reg L < 2 ^ 32 := Nat.xor_lt_two_pow (n := 32) (by decide) (reg_lt h)
 unfold crc
 omega
theorem isB_set {L : List Int} (h : Pl.isB L) (i : Nat) {x : Int} (hx : 0 ≤ x ∧ x < 256) : Pl.isB (L.set i x) := by
 intro z hz
 rcases List.mem_or_eq_of_mem_set hz with h1 | rfl
 ·exact h z h1
 ·exact hx
theorem isB_four : Pl.isB [0, 0, 0, 0] := by intro z hz; simp at hz; omega
theorem zeros_add (m n : Nat) : zeros (m + n) = zeros m ++ zeros n := by simp [zeros, List.replicate_append_replicate]
theorem zeros_drop (m n : Nat) : (zeros m).drop n = zeros (m - n) := by simp [zeros]
theorem bare_zero (kind seq : Int) (body : List Int) : splice (bareZ kind seq body) 11 [0, 0, 0, 0] = bareZ kind seq body := by
 simp [bareZ, splice, Pl.dig]
theorem bare_eq (kind seq : Int) (body : List Int) :
  splice (splice (splice ((zeros 512).set 0 kind) 1 (Pl.dig (body.length : Int) 2)) 3 (Pl.dig seq 8)) 15 body = kind :: (Pl.dig (body.length : Int) 2 ++ (Pl.dig seq 8 ++ ([0, 0, 0, 0] ++ (body ++ zeros (497 - body.length))))) := by
 have e : (zeros 512).set 0 kind = kind :: ([0, 0] ++ ([0, 0, 0, 0, 0, 0, 0, 0] ++ ([0, 0, 0, 0] ++ zeros 497))) := by
  rw [show (512 : Nat) = 15 + 497 from rfl, zeros_add]
  rfl
 have hd := zeros_drop 497 body.length
 generalize zeros (497 - body.length) = Z1 at *
 generalize zeros 497 = Z0 at *
 rw [e]
 simp [splice, Pl.dig, hd, Nat.add_comm]
set_option maxRecDepth 100000 in
set_option maxHeartbeats 1000000 in
theorem Stamp_ok (kind seq : Int) (a : Option Addr) (n c : Nat) (body : List Int) (w : World) (k1 : 1 ≤ kind) (k2 : kind ≤ 255) (s1 : 0 ≤ seq) (s2 : seq ≤ 1099511627776) (hn : n ≤ 497) (hR : Rd w.heap.size w a n body) :
  Calls Tryz.prog 198 #[.int .i64 kind, .int .i64 seq, .slice a n c] w fun e w' => e = .returned (.tuple #[.slice (some ⟨w.heap.size, 0, none⟩) 512 512, .int .i64 0]) ∧ Blk .u8 5 w' w.heap.size (stampZ kind seq body) ∧ Below w.heap.size w w' := by
 obtain ⟨i0, hi, hz0, hz1, hz2⟩ := info_parts info5
 go_enter Tryz.func198, Tryz.ntmps198
 go_wp2_with (at_make; refine wpList_make_full _ rfl _ _ 65 rfl w.heap.size 5 i0 (.int .u8 0) 1 Tryz.underlying65 hi hz0 hz1 _ _ _ _ 512 rfl rfl rfl rfl ?b2 ?b3 (Nat.le_refl _) ?_)
 case b2 => rw [hz2]; decide
 case b3 => decide
 intro w0 hown hgrow
 have hB0 : Blk .u8 5 w0 w.heap.size (zeros 512) := Blk.of_owns hown (by show (madeCells #[Value.int .u8 0] (512 * 1)).toList = _; rw [made_zeros])
 have hb0 : Below w.heap.size w w0 := (Below.refl _ _).grown hgrow (Nat.le_refl _) (fun k h => by cases h)
 clear hown hgrow
 have c0 := hB0.cell 0 (by rw [length_zeros]; decide)
 have f0 := hB0.frozen 0
 have hB1 := hB0.set 0 kind
 have hb1 : Below w.heap.size w (w0.setCell ⟨w.heap.size, 0, none⟩ (.int .u8 kind)) := hb0.setCell (Nat.le_refl _) _
 have HB : Hid (Blk .u8 5 (w0.setCell ⟨w.heap.size, 0, none⟩ (.int .u8 kind)) w.heap.size ((zeros 512).set 0 kind)) := hB1
 clear hB1 hB0
 have hsz1 : (w0.setCell ⟨w.heap.size, 0, none⟩ (.int .u8 kind)).heap.size = w0.heap.size := by simp [World.setCell]
 go_wp2_with fail
 refine (putNumber_any _ 1 2 _ n ((zeros 512).set 0 kind) _ (by decide) (by omega) (by omega) HB.out (by simp [length_zeros])).mono ?_
 rintro e w1 ⟨rfl, hs1, hg1, hB1⟩
 have hb2 : Below w.heap.size w w1 := hb1.grown hg1 hb1.size (fun k h => by cases h; exact Nat.le_refl _)
 clear hg1 hs1 hb1 HB c0 f0
 have HB1 : Hid (Blk .u8 5 w1 w.heap.size (splice ((zeros 512).set 0 kind) 1 (Pl.dig n 2))) := hB1
 clear hB1
 go_wp2_with fail
 refine (putNumber_any _ 3 8 _ seq _ _ (by decide) (by omega) (by omega) HB1.out (by rw [length_splice _ _ _ (by simp [length_zeros, Pl.length_dig])]; simp [length_zeros])).mono ?_
 rintro e w2 ⟨rfl, hs2, hg2, hB2⟩
 have hb3 : Below w.heap.size w w2 := hb2.grown hg2 hb2.size (fun k h => by cases h; exact Nat.le_refl _)
 clear hg2 hs2 hb2 HB1
 obtain ⟨Y, hY⟩ : ∃ Y, Y = splice (splice ((zeros 512).set 0 kind) 1 (Pl.dig n 2)) 3 (Pl.dig seq 8) := ⟨_, rfl⟩
 rw [← hY] at hB2
 have HY : Hid (Y = splice (splice ((zeros 512).set 0 kind) 1 (Pl.dig n 2)) 3 (Pl.dig seq 8)) := hY
 clear hY
 have HB2 : Hid (Blk .u8 5 w2 w.heap.size Y) := hB2
 clear hB2
 have hYl : Hid (Y.length = 512) := by
  show _ = _
  rw [HY.out, length_splice, length_splice] <;> (try rw [length_splice]) <;> simp [length_zeros, Pl.length_dig]
 obtain ⟨w3, hcp, hB3, hs3, hg3⟩ := copy_u8 w.heap.size 15 497 497 a n c Y body w2 w.heap.size HB2.out (hR.below hb3) hn (by rw [hYl.out]; omega)
 have hb4 : Below w.heap.size w w3 := hb3.grown hg3 hb3.size (fun k h => by cases h; exact Nat.le_refl _)
 have HB3 : Hid (Blk .u8 5 w3 w.heap.size (splice Y 15 body)) := hB3
 clear hB3 hs3 hg3 HB2 hb3
 have hlen : (splice Y 15 body).length = 512 := by rw [length_splice _ _ _ (by rw [hYl.out, hR.1]; omega), hYl.out]
 have hYb : Pl.isB Y := by rw [HY.out]; exact isB_splice (isB_splice (isB_set (isB_zeros _) _ (by omega)) (Pl.isB_dig _ _) _) (Pl.isB_dig _ _) _
 have hXb : Pl.isB (splice Y 15 body) := isB_splice hYb hR.2.1 _
 have hfin : Hid (splice Y 15 body = bareZ kind seq body) := by
  show _ = _
  rw [HY.out, bareZ, ← hR.1]
  exact bare_eq kind seq body
 have hfin2 : Hid (splice (splice Y 15 body) 11 [0, 0, 0, 0] = bareZ kind seq body) := by
  show _ = _
  rw [hfin.out]
  exact bare_zero kind seq body
 clear HY hYl hYb
 generalize splice Y 15 body = X at *
 obtain ⟨hcb1, hcb2⟩ := crc_bd (isB_splice hXb (isB_four) 11)
 have hg3 : w.heap.size < w3.heap.size := HB3.out.lt
 have e64 : IntKind.u64.wrap (crc (splice X 11 [0, 0, 0, 0])) = crc (splice X 11 [0, 0, 0, 0]) := by rw [IntKind.wrap_u64]; omega
 generalize hC : crc (splice X 11 [0, 0, 0, 0]) = C at *
 have HC : Hid (crc (splice X 11 [0, 0, 0, 0]) = C) := hC
 clear hC
 have hst := stampSum_any w.heap.size 0 512 X w3.drew hlen hXb hg3 (by decide) (by intro t ht; rw [Nat.zero_add]; exact HB3.out.drew.cell t (by rw [hlen]; exact ht))
 rw [HC.out] at hst
 have HST : Hid _ := hst
 clear hst
 go_wp2_with fail
 go_region_with (first
  | (go_at_call 224; refine Calls.mono HST.out ?_; rintro e w4 ⟨rfl, hb5⟩; have hB4 : Hid (Blk .u8 5 w4 w.heap.size X) := Blk.below (w := w3.drew) HB3.out.drew hb5 hg3; have hb6 : Below w.heap.size w w4 := (hb4.drew).trans (hb5.mono (Nat.le_of_lt hg3)))
  | (go_at_call 220; (refine (putNumber_any w.heap.size 11 4 501 C X w4 (by decide) (by omega) (by omega) (by exact hB4.out) (by rw [hlen]; decide)).mono ?_; rintro e w5 ⟨rfl, hs5, hg5, hB5⟩; have hb7 : Below w.heap.size w w5 := hb6.grown hg5 hb6.size (fun k h => by cases h; exact Nat.le_refl _))))
 all_goals go_wp2
 all_goals go_ret2
 all_goals
  refine ⟨rfl, ?_, by assumption⟩
  have eC : crc (bareZ kind seq body) = C := by rw [← hfin2.out]; exact HC.out
  rw [stampZ, eC, ← hfin.out]
  assumption
open Go.RowKit
theorem part_cells {w : World} {b off m : Nat} {zs : List Int} (hc : ∀ t, t < m → w.cell? ⟨b, off + t, none⟩ = some (.int .u8 (zs.getD t 0))) (i n : Nat) (h : i + n ≤ m) :
  ∀ t, t < n → w.cell? ⟨b, off + i + t, none⟩ = some (.int .u8 (((zs.drop i).take n).getD t 0)) := by
 intro t ht
 rw [show off + i + t = off + (i + t) by omega, hc (i + t) (by omega)]
 simp [List.getElem?_take_of_lt ht]
theorem splice_all (Z cs : List Int) (h : Z.length ≤ cs.length) : splice Z 0 cs = cs := by
 unfold splice
 rw [List.take_zero, List.nil_append, Nat.zero_add, List.drop_eq_nil_of_le h, List.append_nil]
theorem unst_copy (b off c L : Nat) (zs : List Int) (w w2 : World) (hz : zs.length = 512) (hzb : Pl.isB zs) (hb : b < w.heap.size) (hL1 : L ≤ 497)
  (hc : ∀ t, t < 512 → w.cell? ⟨b, off + t, none⟩ = some (.int .u8 (zs.getD t 0))) (hb2 : Below w.heap.size w w2) :
  ∃ w3, Sem.run Tryz.prog (Builtin.copy_ #[65, 65] 3 #[.slice (some ⟨w2.heap.size, 0, none⟩) L L, .slice (some ⟨b, off + 15, none⟩) L c]) (w2.alloc (.cells ((zeros L).map (Value.int .u8)).toArray 5)) = .ok (.int .i64 (L : Int)) w3 ∧
   Blk .u8 5 w3 w2.heap.size ((zs.drop 15).take L) ∧ Below w.heap.size w w3 := by
 have hb3 : Below w.heap.size w (w2.alloc (.cells ((zeros L).map (Value.int .u8)).toArray 5)) := hb2.alloc hb2.size _
 have hl : ((zs.drop 15).take L).length = L := by simp; omega
 have hR : Rd w.heap.size (w2.alloc (.cells ((zeros L).map (Value.int .u8)).toArray 5)) (some ⟨b, off + 15, none⟩) L ((zs.drop 15).take L) :=
  ⟨hl, Pl.isB_take (Pl.isB_drop hzb _) _, .inr ⟨b, off + 15, rfl, hb, fun t ht => (hb3.cell (by exact hb)).trans (part_cells hc 15 L (by omega) t ht)⟩⟩
 obtain ⟨w3, h1, h2, h3, h4⟩ := copy_u8 w2.heap.size 0 L L (some ⟨b, off + 15, none⟩) L c (zeros L) ((zs.drop 15).take L) _ w.heap.size (Blk.new w2 (zeros L)) hR (Nat.le_refl _) (by rw [length_zeros]; omega)
 refine ⟨w3, h1, ?_, hb3.grown h4 hb3.size (fun k h => by cases h; exact hb2.size)⟩
 have e : splice (zeros L) 0 ((zs.drop 15).take L) = (zs.drop 15).take L := splice_all _ _ (by rw [length_zeros, hl]; exact Nat.le_refl _)
 rw [← e]
 exact h2
set_option maxRecDepth 100000 in
set_option maxHeartbeats 1000000 in
theorem Unstamp_ok (b off cap : Nat) (zs : List Int) (K S : Int) (L : Nat) (w : World) (hz : zs.length = 512) (hzb : Pl.isB zs) (hb : b < w.heap.size) (hcap : 512 ≤ cap)
  (hc : ∀ t, t < 512 → w.cell? ⟨b, off + t, none⟩ = some (.int .u8 (zs.getD t 0)))
  (hK : zs.getD 0 0 = K) (hK1 : 1 ≤ K) (hL : Pl.num ((zs.drop 1).take 2) = (L : Int)) (hL1 : L ≤ 497) (hS : Pl.num ((zs.drop 3).take 8) = S) (hS1 : S ≤ 1099511627776)
  (h0 : zeroB (zs.drop (15 + L)) = true) (hsum : Pl.num ((zs.drop 11).take 4) = crc (splice zs 11 [0, 0, 0, 0])) :
  Calls Tryz.prog 195 #[.slice (some ⟨b, off, none⟩) 512 cap] w fun e w' => ∃ g, e = .returned (.tuple #[.int .i64 K, .int .i64 S, .slice (some ⟨g, 0, none⟩) L L, .int .i64 0]) ∧ w.heap.size ≤ g ∧ Blk .u8 5 w' g ((zs.drop 15).take L) ∧ Below w.heap.size w w' := by
 have hS0 : 0 ≤ S := by rw [← hS]; exact Pl.num_nonneg (Pl.isB_take (Pl.isB_drop hzb _) _)
 have hK2 : K < 256 := by rw [← hK, List.getD_eq_getElem?_getD]; exact (Pl.isB_getD hzb 0).2
 have c0 : w.cell? ⟨b, off, none⟩ = some (.int .u8 K) := by rw [← hK]; exact hc 0 (by decide)
 have g1 := getNumber_any b (off + 1) 2 (cap - 1) ((zs.drop 1).take 2) w (by decide) (by simp; omega) (Pl.isB_take (Pl.isB_drop hzb _) _) (part_cells hc 1 2 (by decide))
 have g3 := getNumber_any b (off + 3) 8 (cap - 3) ((zs.drop 3).take 8) w (by decide) (by simp; omega) (Pl.isB_take (Pl.isB_drop hzb _) _) (part_cells hc 3 8 (by decide))
 have g11 := getNumber_any b (off + 11) 4 (cap - 11) ((zs.drop 11).take 4) w (by decide) (by simp; omega) (Pl.isB_take (Pl.isB_drop hzb _) _) (part_cells hc 11 4 (by decide))
 rw [hL] at g1
 rw [hS] at g3
 rw [hsum] at g11
 have hst := stampSum_any b off cap zs w hz hzb hb hcap hc
 obtain ⟨q1, q2⟩ := crc_bd (isB_splice hzb isB_four 11)
 generalize crc (splice zs 11 [0, 0, 0, 0]) = C at *
 have G1 : Hid _ := g1
 have G3 : Hid _ := g3
 have G11 : Hid _ := g11
 have HST : Hid _ := hst
 have HC : Hid (∀ t, t < 512 → w.cell? ⟨b, off + t, none⟩ = some (.int .u8 (zs.getD t 0))) := hc
 have HA1 : cap = 15 + L → Calls Tryz.prog 223 #[.slice (some ⟨b, off, none⟩) (512 - (15 + L)) 0] w fun e w' => e = .returned (.bool (zeroB (zs.drop (15 + L)))) ∧ w' = w := fun h => by
  have hL2 : L = 497 := by omega
  subst hL2
  exact allZero_any w.heap.size _ 0 0 _ w (by decide) ⟨by simp; omega, Pl.isB_drop hzb _, .inl rfl⟩
 have HA2 : Calls Tryz.prog 223 #[.slice (some ⟨b, off + (15 + L), none⟩) (512 - (15 + L)) (cap - (15 + L))] w fun e w' => e = .returned (.bool (zeroB (zs.drop (15 + L)))) ∧ w' = w :=
  allZero_any w.heap.size _ _ _ _ w (by omega) ⟨by simp; omega, Pl.isB_drop hzb _, .inr ⟨b, off + (15 + L), rfl, hb, fun t ht => by rw [show off + (15 + L) + t = off + (15 + L + t) by omega, hc _ (by omega)]; simp⟩⟩
 rw [h0] at HA1 HA2
 have A1 : Hid _ := HA1
 have A2 : Hid _ := HA2
 clear HA1 HA2
 have hK3 : (K == 0) = false := by simp; omega
 have e64 : IntKind.u64.wrap C = C := by rw [IntKind.wrap_u64]; omega
 clear g1 g3 g11 hst hc h0 hsum hL hS hK
 have hmk := make_u8 L (by omega)
 go_enter Tryz.func195, Tryz.ntmps195
 go_wp2_with fail
 refine Calls.mono G1.out ?_
 rintro e w1 ⟨rfl, rfl⟩
 go_wp2_with fail
 refine Calls.mono G3.out ?_
 rintro e w1 ⟨rfl, rfl⟩
 go_wp2_with fail
 ·have hcl : cap = 15 + L := by assumption
  subst hcl
  refine Calls.mono (A1.out rfl) ?_
  rintro e w1 ⟨rfl, rfl⟩
  go_wp2_with fail
  refine Calls.mono G11.out ?_
  rintro e w1 ⟨rfl, rfl⟩
  go_wp2_with fail
  refine Calls.mono HST.out ?_
  rintro e w2 ⟨rfl, hb2⟩
  obtain ⟨w3, hcp, hB3, hb3⟩ := unst_copy b off L L zs w1 w2 hz hzb hb hL1 HC.out hb2
  have HB3 : Hid (Blk .u8 5 w3 w2.heap.size ((zs.drop 15).take L)) := hB3
  have hs := hb2.size
  have Hs : Hid (w1.heap.size ≤ w2.heap.size) := hs
  clear hB3 hs
  go_wp2_with fail
  exact bodyPost_ret (v := .tuple #[.int .i64 K, .int .i64 S, .slice (some ⟨w2.heap.size, 0, none⟩) L L, .int .i64 0]) (by simp [results, Tryz.results195, go_sem]) rfl ⟨w2.heap.size, rfl, Hs.out, HB3.out, hb3⟩
 ·refine Calls.mono A2.out ?_
  rintro e w1 ⟨rfl, rfl⟩
  go_wp2_with fail
  refine Calls.mono G11.out ?_
  rintro e w1 ⟨rfl, rfl⟩
  go_wp2_with fail
  refine Calls.mono HST.out ?_
  rintro e w2 ⟨rfl, hb2⟩
  obtain ⟨w3, hcp, hB3, hb3⟩ := unst_copy b off (cap - 15) L zs w1 w2 hz hzb hb hL1 HC.out hb2
  have HB3 : Hid (Blk .u8 5 w3 w2.heap.size ((zs.drop 15).take L)) := hB3
  have hs := hb2.size
  have Hs : Hid (w1.heap.size ≤ w2.heap.size) := hs
  clear hB3 hs
  go_wp2_with fail
  exact bodyPost_ret (v := .tuple #[.int .i64 K, .int .i64 S, .slice (some ⟨w2.heap.size, 0, none⟩) L L, .int .i64 0]) (by simp [results, Tryz.results195, go_sem]) rfl ⟨w2.heap.size, rfl, Hs.out, HB3.out, hb3⟩
open Go.RowKit
def chk (x v : Int) : Int := if wfB x = false then 10 else if v < 0 ∨ 256 ^ x.toNat ≤ v then 11 else 0
set_option maxRecDepth 100000 in
set_option maxHeartbeats 1000000 in
theorem checkField_any (x v : Int) (w : World) (v1 : -9223372036854775808 ≤ v) (v2 : v ≤ 9223372036854775807) :
  Calls Tryz.prog 219 #[.agg #[.int .i64 x, .int .i64 v]] w fun e w' => e = .returned (.int .i64 (chk x v)) ∧ w' = w.alloc (.cells #[.int .i64 x, .int .i64 v] 204) := by
 by_cases hx : wfB x = true
 ·have hx' : 1 ≤ x ∧ x ≤ 8 := by simpa [wfB] using hx
  have HX : Hid (wfB x = true) := hx
  by_cases hv : v < 0
  ·have e : chk x v = 11 := by simp [chk, hx, hv]
   rw [e]
   clear e
   go_enter Tryz.func219, Tryz.ntmps219
   go_wp2_with (go_at_call 182; refine (widthFits_any _ _).mono ?_; rintro e w' ⟨rfl, rfl⟩)
   go_ret
   exact ⟨rfl, rfl⟩
  ·have hv0 : 0 ≤ v := by omega
   have e : chk x v = if 256 ^ x.toNat ≤ v then 11 else 0 := by simp [chk, hx, hv]
   rw [e]
   clear e hv
   rcases (show x = 1 ∨ x = 2 ∨ x = 3 ∨ x = 4 ∨ x = 5 ∨ x = 6 ∨ x = 7 ∨ x = 8 from by omega) with rfl | rfl | rfl | rfl | rfl | rfl | rfl | rfl
   ·rw [show (256 : Int) ^ (1 : Int).toNat = 256 from by decide]
    clear hx' HX
    by_cases h : 256 ≤ v
    ·have h2 : (v / 256 != 0) = true := by simp; omega
     rw [if_pos h]
     go_enter Tryz.func219, Tryz.ntmps219
     go_wp2_with (go_at_call 182; refine (widthFits_any _ _).mono ?_; rintro e w' ⟨rfl, rfl⟩)
     go_ret
     exact ⟨rfl, rfl⟩
    ·have h2 : (v / 256 != 0) = false := by simp; omega
     rw [if_neg h]
     go_enter Tryz.func219, Tryz.ntmps219
     go_wp2_with (go_at_call 182; refine (widthFits_any _ _).mono ?_; rintro e w' ⟨rfl, rfl⟩)
     go_ret
     exact ⟨rfl, rfl⟩
   ·rw [show (256 : Int) ^ (2 : Int).toNat = 65536 from by decide]
    clear hx' HX
    by_cases h : 65536 ≤ v
    ·have h2 : (v / 65536 != 0) = true := by simp; omega
     rw [if_pos h]
     go_enter Tryz.func219, Tryz.ntmps219
     go_wp2_with (go_at_call 182; refine (widthFits_any _ _).mono ?_; rintro e w' ⟨rfl, rfl⟩)
     go_ret
     exact ⟨rfl, rfl⟩
    ·have h2 : (v / 65536 != 0) = false := by simp; omega
     rw [if_neg h]
     go_enter Tryz.func219, Tryz.ntmps219
     go_wp2_with (go_at_call 182; refine (widthFits_any _ _).mono ?_; rintro e w' ⟨rfl, rfl⟩)
     go_ret
     exact ⟨rfl, rfl⟩
   ·rw [show (256 : Int) ^ (3 : Int).toNat = 16777216 from by decide]
    clear hx' HX
    by_cases h : 16777216 ≤ v
    ·have h2 : (v / 16777216 != 0) = true := by simp; omega
     rw [if_pos h]
     go_enter Tryz.func219, Tryz.ntmps219
     go_wp2_with (go_at_call 182; refine (widthFits_any _ _).mono ?_; rintro e w' ⟨rfl, rfl⟩)
     go_ret
     exact ⟨rfl, rfl⟩
    ·have h2 : (v / 16777216 != 0) = false := by simp; omega
     rw [if_neg h]
     go_enter Tryz.func219, Tryz.ntmps219
     go_wp2_with (go_at_call 182; refine (widthFits_any _ _).mono ?_; rintro e w' ⟨rfl, rfl⟩)
     go_ret
     exact ⟨rfl, rfl⟩
   ·rw [show (256 : Int) ^ (4 : Int).toNat = 4294967296 from by decide]
    clear hx' HX
    by_cases h : 4294967296 ≤ v
    ·have h2 : (v / 4294967296 != 0) = true := by simp; omega
     rw [if_pos h]
     go_enter Tryz.func219, Tryz.ntmps219
     go_wp2_with (go_at_call 182; refine (widthFits_any _ _).mono ?_; rintro e w' ⟨rfl, rfl⟩)
     go_ret
     exact ⟨rfl, rfl⟩
    ·have h2 : (v / 4294967296 != 0) = false := by simp; omega
     rw [if_neg h]
     go_enter Tryz.func219, Tryz.ntmps219
     go_wp2_with (go_at_call 182; refine (widthFits_any _ _).mono ?_; rintro e w' ⟨rfl, rfl⟩)
     go_ret
     exact ⟨rfl, rfl⟩
   ·rw [show (256 : Int) ^ (5 : Int).toNat = 1099511627776 from by decide]
    clear hx' HX
    by_cases h : 1099511627776 ≤ v
    ·have h2 : (v / 1099511627776 != 0) = true := by simp; omega
     rw [if_pos h]
     go_enter Tryz.func219, Tryz.ntmps219
     go_wp2_with (go_at_call 182; refine (widthFits_any _ _).mono ?_; rintro e w' ⟨rfl, rfl⟩)
     go_ret
     exact ⟨rfl, rfl⟩
    ·have h2 : (v / 1099511627776 != 0) = false := by simp; omega
     rw [if_neg h]
     go_enter Tryz.func219, Tryz.ntmps219
     go_wp2_with (go_at_call 182; refine (widthFits_any _ _).mono ?_; rintro e w' ⟨rfl, rfl⟩)
     go_ret
     exact ⟨rfl, rfl⟩
   ·rw [show (256 : Int) ^ (6 : Int).toNat = 281474976710656 from by decide]
    clear hx' HX
    by_cases h : 281474976710656 ≤ v
    ·have h2 : (v / 281474976710656 != 0) = true := by simp; omega
     rw [if_pos h]
     go_enter Tryz.func219, Tryz.ntmps219
     go_wp2_with (go_at_call 182; refine (widthFits_any _ _).mono ?_; rintro e w' ⟨rfl, rfl⟩)
     go_ret
     exact ⟨rfl, rfl⟩
    ·have h2 : (v / 281474976710656 != 0) = false := by simp; omega
     rw [if_neg h]
     go_enter Tryz.func219, Tryz.ntmps219
     go_wp2_with (go_at_call 182; refine (widthFits_any _ _).mono ?_; rintro e w' ⟨rfl, rfl⟩)
     go_ret
     exact ⟨rfl, rfl⟩
   ·rw [show (256 : Int) ^ (7 : Int).toNat = 72057594037927936 from by decide]
    clear hx' HX
    by_cases h : 72057594037927936 ≤ v
    ·have h2 : (v / 72057594037927936 != 0) = true := by simp; omega
     rw [if_pos h]
     go_enter Tryz.func219, Tryz.ntmps219
     go_wp2_with (go_at_call 182; refine (widthFits_any _ _).mono ?_; rintro e w' ⟨rfl, rfl⟩)
     go_ret
     exact ⟨rfl, rfl⟩
    ·have h2 : (v / 72057594037927936 != 0) = false := by simp; omega
     rw [if_neg h]
     go_enter Tryz.func219, Tryz.ntmps219
     go_wp2_with (go_at_call 182; refine (widthFits_any _ _).mono ?_; rintro e w' ⟨rfl, rfl⟩)
     go_ret
     exact ⟨rfl, rfl⟩
   ·rw [show (256 : Int) ^ (8 : Int).toNat = 18446744073709551616 from by decide]
    clear hx' HX
    have h2 : (v / 18446744073709551616 != 0) = false := by simp; omega
    rw [if_neg (by omega)]
    go_enter Tryz.func219, Tryz.ntmps219
    go_wp2_with (go_at_call 182; refine (widthFits_any _ _).mono ?_; rintro e w' ⟨rfl, rfl⟩)
    go_ret
    exact ⟨rfl, rfl⟩
 ·have hx2 : wfB x = false := by simpa using hx
  have e : chk x v = 10 := by simp [chk, hx2]
  rw [e]
  clear e hx
  go_enter Tryz.func219, Tryz.ntmps219
  go_wp2_with (go_at_call 182; refine (widthFits_any _ _).mono ?_; rintro e w' ⟨rfl, rfl⟩)
  go_ret
  exact ⟨rfl, rfl⟩
open Go.RowKit
def packZ (fs : List (Int × Int)) : List Int := fs.flatMap fun f => Pl.dig f.2 f.1.toNat
def okF (fs : List (Int × Int)) : Prop := ∀ f ∈ fs, chk f.1 f.2 = 0
theorem chk_zero {x v : Int} (h : chk x v = 0) : 1 ≤ x ∧ x ≤ 8 ∧ 0 ≤ v ∧ v < 256 ^ x.toNat := by
 unfold chk at h
 split at h
 ·cases h
 ·split at h
  ·cases h
  ·rename_i h1 h2
   simp [wfB] at h1
   simp at h2
   omega
theorem packZ_snoc (fs : List (Int × Int)) (x v : Int) : packZ (fs ++ [(x, v)]) = packZ fs ++ Pl.dig v x.toNat := by simp [packZ]
theorem takeF {fs : List (Int × Int)} {k : Nat} (h : k < fs.length) : fs.take (k + 1) = fs.take k ++ [fs.getD k (0, 0)] := by
 rw [List.take_succ_eq_append_getElem h]; simp [h]
theorem okF_le {fs : List (Int × Int)} (h : okF fs) : (packZ fs).length ≤ 8 * fs.length := by
 induction fs with
 | nil => simp [packZ]
 | cons f r ih =>
  have h1 := chk_zero (h f (by simp))
  have h2 := ih fun g hg => h g (by simp [hg])
  simp only [packZ, List.flatMap_cons, List.length_append, Pl.length_dig, List.length_cons] at *
  omega
theorem isB_packZ (fs : List (Int × Int)) : Pl.isB (packZ fs) := by
 induction fs with
 | nil => exact Pl.isB_nil
 | cons f r ih => simp only [packZ, List.flatMap_cons]; exact Pl.isB_append.2 ⟨Pl.isB_dig _ _, ih⟩
theorem packZ_part (fs : List (Int × Int)) (k : Nat) (h : k < fs.length) :
  (packZ (fs.take (k + 1))).length = (packZ (fs.take k)).length + (fs.getD k (0, 0)).1.toNat ∧ (packZ (fs.take k)).length + (fs.getD k (0, 0)).1.toNat ≤ (packZ fs).length ∧
  splice (packZ (fs.take k) ++ zeros ((packZ fs).length - (packZ (fs.take k)).length)) (packZ (fs.take k)).length (Pl.dig (fs.getD k (0, 0)).2 (fs.getD k (0, 0)).1.toNat) =
   packZ (fs.take (k + 1)) ++ zeros ((packZ fs).length - (packZ (fs.take (k + 1))).length) := by
 generalize hf : fs.getD k (0, 0) = f
 obtain ⟨x, v⟩ := f
 have h1 : packZ (fs.take (k + 1)) = packZ (fs.take k) ++ Pl.dig v x.toNat := by rw [takeF h, hf, packZ_snoc]
 have h2 : packZ fs = packZ (fs.take (k + 1)) ++ packZ (fs.drop (k + 1)) := by
  unfold packZ
  rw [← List.flatMap_append, List.take_append_drop]
 have h3 : (packZ fs).length = (packZ (fs.take k)).length + x.toNat + (packZ (fs.drop (k + 1))).length := by rw [h2, h1]; simp [Pl.length_dig]; omega
 refine ⟨by rw [h1]; simp [Pl.length_dig], by show _ + x.toNat ≤ _; omega, ?_⟩
 rw [h1, h3]
 generalize packZ (fs.take k) = A
 have e : A.length + x.toNat + (packZ (fs.drop (k + 1))).length - A.length = x.toNat + (packZ (fs.drop (k + 1))).length := by omega
 have e2 : A.length + x.toNat + (packZ (fs.drop (k + 1))).length - (A ++ Pl.dig v x.toNat).length = (packZ (fs.drop (k + 1))).length := by rw [List.length_append, Pl.length_dig]; omega
 rw [e, e2, zeros_add]
 unfold splice
 rw [List.take_left, Pl.length_dig, List.drop_append, List.drop_of_length_le (by omega), List.nil_append, show A.length + x.toNat - A.length = (zeros x.toNat).length by rw [length_zeros]; omega, List.drop_left, List.append_assoc]
def RdF (B : Nat) (w : World) (a : Option Addr) (m : Nat) (fs : List (Int × Int)) : Prop :=
 fs.length = m ∧ (∀ f ∈ fs, -9223372036854775808 ≤ f.2 ∧ f.2 ≤ 9223372036854775807) ∧ (m = 0 ∨ ∃ b off, a = some ⟨b, off, none⟩ ∧ b < B ∧
  ∀ t, t < m → w.cell? ⟨b, off + t * 2, none⟩ = some (.int .i64 (fs.getD t (0, 0)).1) ∧ w.cell? ⟨b, off + t * 2 + 1, none⟩ = some (.int .i64 (fs.getD t (0, 0)).2))
set_option maxRecDepth 100000 in
set_option maxHeartbeats 1000000 in
theorem Pack_ok (a : Option Addr) (m c : Nat) (fs : List (Int × Int)) (w : World) (hm : m ≤ 16777216) (hR : RdF w.heap.size w a m fs) (hok : okF fs) :
  Calls Tryz.prog 181 #[.slice a m c] w fun e w' => ∃ g, e = .returned (.tuple #[.slice (some ⟨g, 0, none⟩) (packZ fs).length (packZ fs).length, .int .i64 0]) ∧ w.heap.size ≤ g ∧ Blk .u8 5 w' g (packZ fs) ∧ Below w.heap.size w w' := by
 obtain ⟨hl, hv, h3⟩ := hR
 go_enter Tryz.func181, Tryz.ntmps181
 go_wp2
 go_loopw [4, 14] (fun s i wr => ∃ k : Nat, k ≤ m ∧ i = .int .i64 (k : Int) ∧ s = .int .i64 ((packZ (fs.take k)).length : Int) ∧ Below w.heap.size w wr) (fun _ i _ => m - (intOf i).toNat)
 case atStart => exact ⟨0, Nat.zero_le _, rfl, rfl, Below.refl _ _⟩
 case round =>
  obtain ⟨k, hk, rfl, rfl, hbr⟩ := hrel
  by_cases hkm : k < m
  ·obtain ⟨b, off, rfl, hb, hc⟩ := h3.resolve_left (by omega)
   obtain ⟨x, hx⟩ : ∃ x, x = (fs.getD k (0, 0)).1 := ⟨_, rfl⟩
   obtain ⟨v, hv'⟩ : ∃ v, v = (fs.getD k (0, 0)).2 := ⟨_, rfl⟩
   have hmem : fs.getD k (0, 0) ∈ fs := by
    have : k < fs.length := by omega
    simp [this]
   have hck := hok _ hmem
   have hvb := hv _ hmem
   obtain ⟨hcx, hcv⟩ := hc k hkm
   rw [← hx] at hcx hck
   rw [← hv'] at hcv hck hvb
   have hcx' := (hbr.cell (p := ⟨b, off + k * 2, none⟩) (by exact hb)).trans hcx
   have hcv' := (hbr.cell (p := ⟨b, off + k * 2 + 1, none⟩) (by exact hb)).trans hcv
   obtain ⟨x1, x2, _, _⟩ := chk_zero hck
   have hle := okF_le (fs := fs.take k) (fun f hf => hok f (List.mem_of_mem_take hf))
   have hnx : (packZ (fs.take (k + 1))).length = (packZ (fs.take k)).length + x.toNat := by
    rw [takeF (by omega), show fs.getD k (0, 0) = (x, v) from by rw [hx, hv'], packZ_snoc, List.length_append, Pl.length_dig]
   have HN := hid hnx
   rw [List.length_take] at hle
   have hle2 : (packZ (fs.take k)).length ≤ 134217728 := by omega
   clear hle hnx hx hv' hmem hcx hcv
   generalize (packZ (fs.take k)).length = pl at *
   go_wp2_with fail
   refine (checkField_any x v _ hvb.1 hvb.2).mono ?_
   rintro e w1 ⟨rfl, rfl⟩
   rw [hck]
   go_wp2
   go_roundw
   case rel => exact ⟨k + 1, by omega, by go_num, by rw [HN.out]; congr 1; omega, (hbr.alloc hbr.size _).alloc (by have := hbr.size; simp; omega) _⟩
   case measure => simp [intOf]; omega
  ·have e : fs.take k = fs := List.take_of_length_le (by omega)
   rw [e]
   have hle := okF_le hok
   have hle2 : (packZ fs).length ≤ 134217728 := by omega
   have hmk := make_u8 (packZ fs).length (by omega)
   have hB0 := Blk.new (k := .u8) (e := 5) wr (zeros (packZ fs).length)
   have HB0 := hid hB0
   clear e hle hB0
   have hg : w.heap.size ≤ wr.heap.size := hbr.size
   have hb0 : Below w.heap.size w (wr.alloc (.cells ((zeros (packZ fs).length).map (Value.int .u8)).toArray 5)) := hbr.alloc hbr.size _
   have Hb0 := hid hb0
   clear hbr hb0
   go_wp2
   generalize wr.heap.size = g at *
   go_loopw [9, 32] (fun s i wt => ∃ k : Nat, k ≤ m ∧ i = .int .i64 (k : Int) ∧ s = .int .i64 ((packZ (fs.take k)).length : Int) ∧ Blk .u8 5 wt g (packZ (fs.take k) ++ zeros ((packZ fs).length - (packZ (fs.take k)).length)) ∧ Below w.heap.size w wt) (fun _ i _ => m - (intOf i).toNat)
   case atStart => exact ⟨0, Nat.zero_le _, rfl, rfl, by rw [List.take_zero]; exact HB0.out, Hb0.out⟩
   case round =>
    clear HB0 Hb0 hmk hkm
    obtain ⟨k, hk, rfl, rfl, hBk, hbt⟩ := hrel
    by_cases hkm : k < m
    ·obtain ⟨b, off, rfl, hb, hc⟩ := h3.resolve_left (by omega)
     obtain ⟨x, hx⟩ : ∃ x, x = (fs.getD k (0, 0)).1 := ⟨_, rfl⟩
     obtain ⟨v, hv'⟩ : ∃ v, v = (fs.getD k (0, 0)).2 := ⟨_, rfl⟩
     have hmem : fs.getD k (0, 0) ∈ fs := by
      have : k < fs.length := by omega
      simp [this]
     have hck := hok _ hmem
     have hvb := hv _ hmem
     obtain ⟨hcx, hcv⟩ := hc k hkm
     rw [← hx] at hcx hck
     rw [← hv'] at hcv hck hvb
     obtain ⟨x1, x2, v1, v2⟩ := chk_zero hck
     obtain ⟨X, rfl⟩ := Int.eq_ofNat_of_zero_le (show 0 ≤ x by omega)
     have hcx' := (hbt.cell (p := ⟨b, off + k * 2, none⟩) (by exact hb)).trans hcx
     have hcv' := (hbt.cell (p := ⟨b, off + k * 2 + 1, none⟩) (by exact hb)).trans hcv
     have hz := packZ_part fs k (by omega)
     rw [show fs.getD k (0, 0) = ((X : Int), v) from by rw [hx, hv']] at hz
     obtain ⟨z1, z2, z3⟩ := hz
     simp only [Int.toNat_natCast] at z1 z2 z3
     have HN := hid z1
     have HZ := hid z3
     have HB := hid hBk
     have hlen : (packZ (fs.take k) ++ zeros ((packZ fs).length - (packZ (fs.take k)).length)).length = (packZ fs).length := by rw [List.length_append, length_zeros]; omega
     have HL := hid hlen
     obtain ⟨v3, v4⟩ := hvb
     clear hx hv' hmem hcx hcv hBk z1 z3 hlen hck v2
     generalize hpl : (packZ (fs.take k)).length = pl at *
     generalize hn : (packZ fs).length = n at *
     clear hpl hn
     have hne : ¬ n = pl := by omega
     obtain ⟨P, hP⟩ : ∃ P, P = pl + X := ⟨_, rfl⟩
     have ew : IntKind.i64.wrap ((pl : Int) + (X : Int)) = (P : Int) := by rw [IntKind.wrap_i64]; omega
     have hP1 : pl ≤ P := by omega
     have hP2 : (P : Int) ≤ (n : Int) := by omega
     have hP3 : Hid (P = pl + X) := hP
     clear hP
     have hB2 : Blk .u8 5 (wr.alloc (.cells #[.int .i64 (X : Int), .int .i64 v] 204)).drew g (packZ (fs.take k) ++ zeros (n - pl)) := (HB.out.alloc _).drew
     have hput := putNumber_any g pl X (n - pl) v _ _ (by omega) v1 (by omega) hB2 (by rw [HL.out]; omega)
     rw [HZ.out] at hput
     have HP : Hid (Calls Tryz.prog 220 #[.slice (some ⟨g, pl, none⟩) (P - pl) (n - pl), .int .u64 (IntKind.u64.wrap v)] (wr.alloc (.cells #[.int .i64 (X : Int), .int .i64 v] 204)).drew fun e w' => e = .returned (.tuple #[]) ∧
       w'.heap.size = (wr.alloc (.cells #[.int .i64 (X : Int), .int .i64 v] 204)).drew.heap.size ∧ (wr.alloc (.cells #[.int .i64 (X : Int), .int .i64 v] 204)).drew.grownBy w' (some g) ∧ Blk .u8 5 w' g (packZ (fs.take (k + 1)) ++ zeros (n - (packZ (fs.take (k + 1))).length))) := by
      show Calls _ _ _ _ _
      rw [show P - pl = X from by rw [hP3.out]; omega, show IntKind.u64.wrap v = v from by rw [IntKind.wrap_u64]; omega]
      exact hput
     clear hput hB2
     have hbt2 : Below w.heap.size w (wr.alloc (.cells #[.int .i64 (X : Int), .int .i64 v] 204)).drew := (hbt.alloc hbt.size _).drew
     have hgne : some wr.heap.size ≠ some g := by intro h; have h1 := HB.out.lt; have h2 := Option.some.inj h; omega
     go_wp2_with fail
     go_region_with (go_at_call 220; refine Calls.mono HP.out ?_; rintro e w1 ⟨rfl, hs1, hg1, hB1⟩; (have hb1 : Below w.heap.size w w1 := hbt2.grown hg1 hbt2.size (fun k h => by cases h; exact hg); have hcw : w1.cell? ⟨wr.heap.size, 0, none⟩ = some (.int .i64 (X : Int)) := hg1.cell (by simp) hgne; clear hs1 hg1))
     all_goals have HB1 := hid hB1
     all_goals clear hB1
     all_goals go_wp2
     all_goals
      go_roundw
      case rel => exact ⟨k + 1, by omega, by go_num, by rw [HN.out, hP3.out], HB1.out, by assumption⟩
      case measure => simp [intOf]; omega
    ·have e : fs.take k = fs := List.take_of_length_le (by omega)
     rw [e, Nat.sub_self] at hBk
     rw [show packZ fs ++ zeros 0 = packZ fs from by simp [zeros]] at hBk
     have HB := hid hBk
     clear hBk
     go_wp2
     go_ret2
     exact ⟨g, rfl, hg, HB.out, hbt⟩
end Go.Proofs.YtlefjidbpjkhlaaGreat
