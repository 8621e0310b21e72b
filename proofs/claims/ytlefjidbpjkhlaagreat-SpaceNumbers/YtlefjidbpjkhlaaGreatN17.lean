import Derived.Test.YtlefjidbpjkhlaaGreatN16
import Derived.Deep.RegionHeld3
import Derived.Shelf.Bytes.SlEqualAll
import Derived.Test.YtlefjidbpjkhlaaGreatN15
import Derived.Laws.Rows
import Derived.Laws.ResultCell
import Derived.Deep.DeepCutAuto
namespace Go.Proofs.YtlefjidbpjkhlaaGreat
open Go.RowKit
theorem saysWhose_any {w : World} {g cap : Nat} {zs : List Int} (ho : Own w g 512 cap zs) (hb : Pl.isB zs) : Calls Tryz.prog 201 #[.slice (some ⟨g, 0, none⟩) 512 cap] w fun e w' => e = .returned (.bool (decide (zs.getD 0 0 = 2 ∨ zs.getD 0 0 = 1))) ∧ w' = w := by
 have c0 := ho.cell 0 (by omega)
 have hk := Pl.isB_getD hb 0
 have hk2 : zs.getD 0 0 = zs[0]?.getD 0 := by simp
 rw [← hk2] at hk
 generalize zs.getD 0 0 = k at *
 have hw : IntKind.i64.wrap k = k := by rw [IntKind.wrap_i64]; omega
 clear ho hb hk2
 by_cases h2 : k = 2
 ·subst h2
  go_enter Tryz.func201, Tryz.ntmps201
  go_wp2
  go_ret
  exact ⟨by simp, rfl⟩
 ·by_cases h1 : k = 1
  ·subst h1
   go_enter Tryz.func201, Tryz.ntmps201
   go_wp2
   go_ret
   exact ⟨by simp, rfl⟩
  ·go_enter Tryz.func201, Tryz.ntmps201
   go_wp2
   go_ret
   exact ⟨by simp [h1, h2], rfl⟩
theorem okW_eight : okW [8] := by
 intro x hx
 simp at hx
 subst hx
 rfl
def toCome (life : Nat) (zs : List Int) : Bool := decide (Pl.num ((zs.drop 3).take 8) ≤ 9223372036854775807) && (decide (life ≠ 0) && decide ((life : Int) < Pl.num ((zs.drop 3).take 8)))
set_option maxRecDepth 100000 in
set_option maxHeartbeats 1000000 in
theorem isToCome_any {Z : Nat → Prop} {w : World} {j c p room nb K fr bl : Nat} {d : Pd} {s : Js} (h : Jq Z w j c p room nb K fr bl d s) {g cap : Nat} {zs : List Int} (ho : Own w g 512 cap zs) (hb : Pl.isB zs) : Calls Tryz.prog 202 #[.pointer (some ⟨j, 0, none⟩), .slice (some ⟨g, 0, none⟩) 512 cap] w fun e w' => e = .returned (.bool (toCome s.life zs)) ∧ Below w.heap.size w w' := by
 obtain ⟨mv, hJ, hZj⟩ := h.cells
 have hcap := ho.cap
 obtain ⟨w1, hw1⟩ : ∃ w1, w1 = w.alloc (.cells #[.int .i64 8] 3) := ⟨_, rfl⟩
 have b1 : Below w.heap.size w w1 := by rw [hw1]; exact (Below.refl _ _).alloc (Nat.le_refl _) _
 have z1 : w1.heap.size = w.heap.size + 1 := by rw [hw1]; simp
 have hR : Rd w1.heap.size w1 (some ⟨g, 3, none⟩) 8 ((zs.drop 3).take 8) := by
  have r1 := rd_part (ho.rd hb) 3 8 (by omega) ho.lt
  rw [Nat.zero_add] at r1
  exact (r1.below b1).mono (by omega)
 have hRI : RdI w1.heap.size w1 (some ⟨w.heap.size, 0, none⟩) 1 [8] := ⟨rfl, .inr ⟨w.heap.size, 0, rfl, by omega, fun t ht => by
  rw [hw1]
  rcases t with _ | t
  ·exact cell_new rfl 0 _ rfl
  ·omega⟩⟩
 obtain ⟨v0, hv0⟩ : ∃ v0, v0 = Pl.num ((zs.drop 3).take 8) := ⟨_, rfl⟩
 have hvk : valK ((zs.drop 3).take 8) [8] 0 = v0 := by rw [hv0]; simp [valK, sumW, List.take_take]
 have hJ1 := (h.below b1).cells
 have j3 := hJ.cell 3
 simp at j3
 have hjl := hJ.lt
 obtain ⟨lv, hlv⟩ : ∃ lv : Int, lv = (s.life : Int) := ⟨_, rfl⟩
 have htc : toCome s.life zs = (decide (v0 ≤ 9223372036854775807) && (decide (lv ≠ 0) && decide (lv < v0))) := by
  unfold toCome
  rw [← hv0, hlv]
  congr 2
  simp
 rw [htc]
 rw [← hlv] at j3
 have y1 : ¬ cap = 3 := by omega
 have x1 : (11 : Int) ≤ (cap : Int) := by omega
 have B1 := hid b1
 by_cases hv : v0 ≤ 9223372036854775807
 ·have HU := hid (Unpack_ok (some ⟨g, 3, none⟩) (some ⟨w.heap.size, 0, none⟩) 8 (cap - 3) 1 1 ((zs.drop 3).take 8) [8] w1 (by omega) (by omega) hR hRI okW_eight rfl (fun k hk => by
   rcases k with _ | k
   ·rw [hvk]; exact hv
   ·omega))
  rw [show vals ((zs.drop 3).take 8) [8] 1 = [v0] by simp [vals, hvk]] at HU
  have HJ := hid hJ
  have hbl : decide (v0 ≤ 9223372036854775807) = true := decide_eq_true hv
  rw [hbl]
  clear hbl hR hRI hvk hv0 htc hlv hJ1 hJ h ho hb b1 hv z1
  by_cases hlz : lv = 0
  ·subst hlz
   go_enter Tryz.func202, Tryz.ntmps202
   go_wp2_with fail
   rw [← hw1]
   refine Calls.mono HU.out ?_
   rintro e w2 ⟨g2, rfl, hg2, hb2, b2⟩
   have B2 := hid (B1.out.trans (b2.mono B1.out.size))
   have k3 := (B2.out.cell (p := ⟨j, 3, none⟩) hjl).trans j3
   clear b2 hb2 hg2 HU hw1 B1 j3
   go_wp2_with fail
   go_region
   all_goals
    go_wp2
    go_ret
    exact ⟨by simp, by simpa using B2.out.drew⟩
  ·have hne : (lv != 0) = true := by simpa using hlz
   by_cases hlt : lv < v0
   ·go_enter Tryz.func202, Tryz.ntmps202
    go_wp2_with fail
    rw [← hw1]
    refine Calls.mono HU.out ?_
    rintro e w2 ⟨g2, rfl, hg2, hb2, b2⟩
    have B2 := hid (B1.out.trans (b2.mono B1.out.size))
    have k3 := (B2.out.cell (p := ⟨j, 3, none⟩) hjl).trans j3
    have c0 := hb2.cell 0 (by simp)
    simp at c0
    clear b2 hb2 hg2 HU hw1 B1 j3
    go_wp2_with fail
    go_region_held3 (fun w' => w'.cell? ⟨j, 3, none⟩ = some (.int .i64 lv) ∧ w'.cell? ⟨g2, 0, none⟩ = some (.int .i64 v0)) (first | (exact ⟨by assumption, by assumption⟩) | go_keep) (fail)
    go_wp2
    go_ret
    exact ⟨by simp [hlz, hlt], by simpa using B2.out.drew⟩
   ·go_enter Tryz.func202, Tryz.ntmps202
    go_wp2_with fail
    rw [← hw1]
    refine Calls.mono HU.out ?_
    rintro e w2 ⟨g2, rfl, hg2, hb2, b2⟩
    have B2 := hid (B1.out.trans (b2.mono B1.out.size))
    have k3 := (B2.out.cell (p := ⟨j, 3, none⟩) hjl).trans j3
    have c0 := hb2.cell 0 (by simp)
    simp at c0
    clear b2 hb2 hg2 HU hw1 B1 j3
    go_wp2_with fail
    go_region_held3 (fun w' => w'.cell? ⟨j, 3, none⟩ = some (.int .i64 lv) ∧ w'.cell? ⟨g2, 0, none⟩ = some (.int .i64 v0)) (first | (exact ⟨by assumption, by assumption⟩) | go_keep) (fail)
    go_wp2
    go_ret
    exact ⟨by simp [hlz], by simpa using B2.out.drew⟩
 ·have HU := hid (Unpack_value (some ⟨g, 3, none⟩) (some ⟨w.heap.size, 0, none⟩) 8 (cap - 3) 1 1 ((zs.drop 3).take 8) [8] w1 (by omega) (by omega) hR hRI okW_eight rfl ⟨0, by omega, by rw [hvk]; omega⟩)
  have hbl : decide (v0 ≤ 9223372036854775807) = false := decide_eq_false hv
  rw [hbl]
  clear hbl hR hRI hvk hv0 htc hlv hJ1 hJ h ho hb b1 hv z1
  go_enter Tryz.func202, Tryz.ntmps202
  go_wp2_with fail
  rw [← hw1]
  refine Calls.mono HU.out ?_
  rintro e w2 ⟨rfl, b2⟩
  have B2 := hid (B1.out.trans (b2.mono B1.out.size))
  have k3 := (B2.out.cell (p := ⟨j, 3, none⟩) hjl).trans j3
  clear b2 HU hw1 B1 j3
  unfold perr
  go_wp2_with fail
  go_region
  all_goals
   go_wp2
   go_ret
   exact ⟨by simp, by simpa using B2.out.drew⟩
def foreign (life : Nat) (zs : List Int) : Bool := (decide (zs.getD 0 0 = 2 ∨ zs.getD 0 0 = 1) || toCome life zs) && (unZ zs).isSome
set_option maxRecDepth 100000 in
set_option maxHeartbeats 1000000 in
theorem isForeign_any {Z : Nat → Prop} {w : World} {j c p room nb K fr bl : Nat} {d : Pd} {s : Js} (h : Jq Z w j c p room nb K fr bl d s) {g cap : Nat} {zs : List Int} (ho : Own w g 512 cap zs) (hb : Pl.isB zs) : Calls Tryz.prog 170 #[.pointer (some ⟨j, 0, none⟩), .slice (some ⟨g, 0, none⟩) 512 cap] w fun e w' => e = .returned (.bool (foreign s.life zs)) ∧ Below w.heap.size w w' := by
 have HW := hid (saysWhose_any ho hb)
 have HC := hid (isToCome_any h ho hb)
 have HUn : Hid (∀ w1, Below w.heap.size w w1 → Calls Tryz.prog 195 #[.slice (some ⟨g, 0, none⟩) 512 cap] w1 fun e w' => UnP w1 (unZ zs) e w' ∧ Below w1.heap.size w1 w') := fun w1 b1 => Unstamp_any (ho.keep (b1.block g ho.lt)) hb
 unfold foreign
 generalize decide (zs.getD 0 0 = 2 ∨ zs.getD 0 0 = 1) = bw at *
 generalize toCome s.life zs = bc at *
 generalize unZ zs = o at *
 clear h ho hb
 have TAIL : Hid (∀ w1, Below w.heap.size w w1 → Calls Tryz.prog 195 #[.slice (some ⟨g, 0, none⟩) 512 cap] w1 fun e w' => Below w.heap.size w w' ∧ ∃ k l v code, e = .returned (.tuple #[.int .i64 k, .int .i64 l, v, .int .i64 code]) ∧ (decide (code = 0) = o.isSome)) := fun w1 b1 => by
  refine Calls.mono (HUn.out w1 b1) ?_
  rintro e w' ⟨hu, b2⟩
  refine ⟨b1.trans (b2.mono b1.size), ?_⟩
  cases o with
  | none =>
   obtain ⟨code, rfl, hc⟩ := hu
   exact ⟨_, _, _, code, rfl, by simp [hc]⟩
  | some r =>
   obtain ⟨k, l, body⟩ := r
   obtain ⟨g2, rfl, _⟩ := hu
   exact ⟨_, _, _, 0, rfl, by simp⟩
 clear HUn
 cases bw with
 | true =>
  go_enter Tryz.func170, Tryz.ntmps170
  go_wp2_with fail
  refine Calls.mono HW.out ?_
  rintro e w1 ⟨rfl, hw1⟩
  rw [hw1]
  clear hw1 HW HC
  have T1 := hid (TAIL.out w (Below.refl _ _))
  go_wp2_with fail
  refine Calls.mono T1.out ?_
  rintro e w2 ⟨b2, k, l, v, code, rfl, hc⟩
  have FIN := hid (And.intro b2 hc)
  clear b2 hc T1 TAIL
  go_wp2
  go_ret
  refine ⟨?_, FIN.out.1⟩
  rw [← FIN.out.2]
  simp
  rfl
 | false =>
  cases bc with
  | true =>
   go_enter Tryz.func170, Tryz.ntmps170
   go_wp2_with fail
   refine Calls.mono HW.out ?_
   rintro e w1 ⟨rfl, hw1⟩
   rw [hw1]
   clear hw1 HW
   go_wp2_with fail
   refine Calls.mono HC.out ?_
   rintro e w1 ⟨rfl, b1⟩
   have T1 := hid (TAIL.out w1 b1)
   clear b1 HC TAIL
   go_wp2_with fail
   refine Calls.mono T1.out ?_
   rintro e w2 ⟨b2, k, l, v, code, rfl, hc⟩
   have FIN := hid (And.intro b2 hc)
   clear b2 hc T1
   go_wp2
   go_ret
   refine ⟨?_, FIN.out.1⟩
   rw [← FIN.out.2]
   simp
   rfl
  | false =>
   go_enter Tryz.func170, Tryz.ntmps170
   go_wp2_with fail
   refine Calls.mono HW.out ?_
   rintro e w1 ⟨rfl, hw1⟩
   rw [hw1]
   clear hw1 HW
   go_wp2_with fail
   refine Calls.mono HC.out ?_
   rintro e w1 ⟨rfl, b1⟩
   have FIN := hid b1
   clear b1 HC TAIL
   go_wp2
   go_ret
   exact ⟨by simp, FIN.out⟩
open Go.RowKit Go.Shelf
def equalA_ren : Go.Shelf.Ren := ⟨fun | 115 => 169 | n => n, fun | 37 => 65 | 4 => 4 | 9 => 9 | 5 => 5 | n => n, fun | n => n⟩
theorem equalA : Go.Proofs.Lays.nb115 Tryz.prog equalA_ren := {
 mixed := by kernel_rfl
 f115 := Tryz.func169.trans (congrArg some (by kernel_rfl))
 t4 := Tryz.underlying4
 a4 := Tryz.isAgg4
 z4 := Tryz.sizeOf4
 v4 := Tryz.zeroValue4
 t9 := Tryz.underlying9
 a9 := Tryz.isAgg9
 z9 := Tryz.sizeOf9
 v9 := Tryz.zeroValue9
 t37 := Tryz.underlying65
 a37 := Tryz.isAgg65
 z37 := Tryz.sizeOf65
 v37 := Tryz.zeroValue65
 t5 := Tryz.underlying5
 a5 := Tryz.isAgg5
 z5 := Tryz.sizeOf5
 v5 := Tryz.zeroValue5 }
theorem bytes_inj : ∀ {xs ys : List Int}, Pl.isB xs → Pl.isB ys → Lib.bytesOf xs = Lib.bytesOf ys → xs = ys
 | [], [], _, _, _ => rfl
 | [], _ :: _, _, _, h => by simp [Lib.bytesOf] at h
 | _ :: _, [], _, _, h => by simp [Lib.bytesOf] at h
 | x :: xs, y :: ys, hx, hy, h => by
  simp only [Lib.bytesOf, List.map_cons, List.cons.injEq] at h
  have h1 := hx x (by simp)
  have h2 := hy y (by simp)
  have e : x = y := by
   have := congrArg UInt8.toNat h.1
   simp at this
   omega
  rw [e, bytes_inj (fun z hz => hx z (by simp [hz])) (fun z hz => hy z (by simp [hz])) h.2]
theorem Equal_any {w : World} {g1 c1 g2 c2 : Nat} {xs ys : List Int} (h1 : Own w g1 512 c1 xs) (h2 : Own w g2 512 c2 ys) (b1 : Pl.isB xs) (b2 : Pl.isB ys) : Calls Tryz.prog 169 #[.slice (some ⟨g1, 0, none⟩) 512 c1, .slice (some ⟨g2, 0, none⟩) 512 c2] w fun e w' => e = .returned (.bool (decide (xs = ys))) ∧ w' = w := by
 refine Calls.mono (Any.bytes_Equal_all equalA (some ⟨g1, 0, none⟩) (some ⟨g2, 0, none⟩) 512 c1 512 c2 xs ys w h1.len h2.len (fun _ => ⟨g1, 0, rfl, fun i hi => by rw [Nat.zero_add]; exact h1.cell i hi⟩) (fun _ => ⟨g2, 0, rfl, fun i hi => by rw [Nat.zero_add]; exact h2.cell i hi⟩)) ?_
 rintro e w' ⟨rfl, rfl⟩
 refine ⟨?_, rfl⟩
 congr 2
 by_cases q : xs = ys
 ·simp [q]
 ·have : ¬ Lib.bytesOf xs = Lib.bytesOf ys := fun r => q (bytes_inj b1 b2 r)
  simp [q, this]
def otherAt (fr bl life : Nat) (rd : Nat → List Int) (i : Nat) : Bool := !decide (rd (fr + 1 + i) = blankZ fr bl) && foreign life (rd (fr + 1 + i))
def NoP (fr bl : Nat) (s : Js) (rd : Nat → List Int) (e : Ending) : Prop :=
 (e = .returned (.int .i64 0) ∧ ∀ i, s.used ≤ i → i < bl - 1 → otherAt fr bl s.life rd i = false) ∨ (e = .returned (.int .i64 41) ∧ ∃ i, s.used ≤ i ∧ i < bl - 1 ∧ otherAt fr bl s.life rd i = true)
set_option maxRecDepth 100000 in
set_option maxHeartbeats 1000000 in
theorem findNoOther_any {Z : Nat → Prop} {w : World} {j c p room nb K fr bl : Nat} {d : Pd} {s : Js} (h : Jq Z w j c p room nb K fr bl d s) (hn : Jn nb fr bl s) (hl : d.puts.length ≤ 1073741824) (hon : d.off = false) :
  Calls Tryz.prog 126 #[.pointer (some ⟨j, 0, none⟩)] w fun e w' => NoP fr bl s d.read e ∧ Below w.heap.size w w' := by
 have hlo := hn.lo
 have hfit := hn.fit
 have hnb := hn.nb
 have hus := hn.used
 obtain ⟨mv, hJ, hZj⟩ := h.cells
 have j1 := hJ.cell 1
 have j2 := hJ.cell 2
 simp at j1 j2
 have HB := hid (stamped_blank (fr := fr) (bl := bl) (by omega) (by omega) w)
 have HL := hid (And.intro hl hon)
 have HJ := hid h
 clear hJ h hn hl hon hZj
 go_enter Tryz.func126, Tryz.ntmps126
 go_wp2_with fail
 refine Calls.mono HB.out ?_
 rintro e w1 ⟨g0, rfl, hg0, hblk, b1⟩
 have hJ1 := HJ.out.below b1
 obtain ⟨mv1, hJb1, _⟩ := hJ1.cells
 have k5 := hJb1.cell 5
 simp at k5
 have HO := hid (Own.of_blk hblk (blankZ_ok fr bl).1 (by unfold maxLen; omega))
 have HJ1 := hid hJ1
 have HB1 := hid b1
 clear hg0 hblk b1 HB j1 j2 hJ1 hJb1 HJ
 generalize hN : bl - 1 = N at *
 go_wp2_with fail
 go_loopw [5] (fun iv wr => ∃ i : Nat, s.used ≤ i ∧ i ≤ N ∧ iv = .int .i64 (i : Int) ∧ (∀ t, s.used ≤ t → t < i → otherAt fr bl s.life d.read t = false) ∧ Below w1.heap.size w1 wr) (fun iv _ => N - (intOf iv).toNat)
 case atStart => exact ⟨s.used, Nat.le_refl _, by omega, rfl, fun t h1 h2 => by omega, Below.refl _ _⟩
 case round =>
  obtain ⟨i, hiu, hi, rfl, hall, hbt⟩ := hrel
  have hJr := HJ1.out.below hbt
  obtain ⟨mvr, hJbr, _⟩ := hJr.cells
  have j1 := hJbr.cell 1
  have j2 := hJbr.cell 2
  simp at j1 j2
  have HA := hid (jlogRoom_any (fr : Int) (bl : Int) (by omega) (by omega) wr)
  have HJr := hid hJr
  have HBt := hid hbt
  have HALL := hid hall
  clear hJr hJbr hbt hall k5
  go_wp2_with fail
  refine Calls.mono HA.out ?_
  rintro e w2 ⟨rfl, b2⟩
  have hb1 : ((bl : Int) - 1) = (N : Int) := by omega
  rw [hb1]
  have HB2 := hid (HBt.out.trans (b2.mono HBt.out.size))
  have hJ2 := HJr.out.below b2
  obtain ⟨mv2, hJb2, _⟩ := hJ2.cells
  obtain ⟨_, hc0, hcl⟩ := hJ2.dk
  have m0 := hJb2.cell 0
  have m1 := hJb2.cell 1
  have m2 := hJb2.cell 2
  simp at m0 m1 m2
  have hjl := hJb2.lt
  have HJ2 := hid hJ2
  clear hb1 b2 HA j1 j2 hJ2 hJb2 HBt
  by_cases hiN : i < N
  ·have hiN' : (i : Int) < (N : Int) := by omega
   have HLB := hid (jlogBlock_any (fr : Int) (bl : Int) (i : Int) (by omega) (by omega) (by omega) (by omega) w2.drew)
   have HRD : Hid (∀ w3, Below w2.heap.size w2 w3 → (Calls Tryz.prog 168 #[.pointer (some ⟨p, 0, none⟩), .int .i64 ((fr : Int) + 1 + (i : Int))] w3 fun e w' => ∃ g cp, e = .returned (.tuple #[.slice (some ⟨g, 0, none⟩) 512 cp, .int .i64 0]) ∧ w3.heap.size ≤ g ∧ Own w' g 512 cp (d.read (fr + 1 + i)) ∧ Below w3.heap.size w3 w') ∧ Pl.isB (d.read (fr + 1 + i))) := fun w3 b3 => by
    have q := (HJ2.out.below b3).dread HL.out.1 HL.out.2 (fr + 1 + i) (by omega)
    rw [show (((fr + 1 + i : Nat)) : Int) = (fr : Int) + 1 + (i : Int) by omega] at q
    exact ⟨q.1, q.2.2⟩
   go_wp2_with fail
   go_region_held3 (fun w' => w'.cell? ⟨j, 0, none⟩ = some (.pointer (some ⟨c, 0, none⟩)) ∧ w'.cell? ⟨j, 1, none⟩ = some (.int .i64 (fr : Int)) ∧ w'.cell? ⟨j, 2, none⟩ = some (.int .i64 (bl : Int)) ∧ w'.cell? ⟨c, 0, none⟩ = some (.pointer (some ⟨p, 0, none⟩))) (first | (exact ⟨by assumption, by assumption, by assumption, by assumption⟩) | go_keep) (first
    | (go_at_call 137; refine Calls.mono HLB.out ?_; rintro e w3 ⟨rfl, b3⟩; have B3 : Hid (Below w2.heap.size w2 w3) := ⟨b3.os, b3.tape, b3.output, b3.size, b3.block⟩; have n0 := (B3.out.cell (p := ⟨j, 0, none⟩) hjl).trans m0; have n1 := (B3.out.cell (p := ⟨j, 1, none⟩) hjl).trans m1; have n2 := (B3.out.cell (p := ⟨j, 2, none⟩) hjl).trans m2; have nc := (B3.out.cell (p := ⟨c, 0, none⟩) hcl).trans hc0; clear b3)
    | (go_at_call 168; refine Calls.mono (HRD.out _ B3.out).1 ?_; rintro e w4 ⟨g4, cp4, rfl, hg4, ho4, b4⟩; have B4 := hid (B3.out.trans (b4.mono B3.out.size)); have q0 := (B4.out.cell (p := ⟨j, 0, none⟩) hjl).trans m0; have q1 := (B4.out.cell (p := ⟨j, 1, none⟩) hjl).trans m1; have q2 := (B4.out.cell (p := ⟨j, 2, none⟩) hjl).trans m2; have qc := (B4.out.cell (p := ⟨c, 0, none⟩) hcl).trans hc0; have HO4 := hid ho4; clear b4 ho4))
   have hisb := (HRD.out _ B3.out).2
   have hbw4 : Below w1.heap.size w1 w4 := HB2.out.trans (B4.out.mono HB2.out.size)
   have HE := hid (Equal_any HO4.out (HO.out.keep (hbw4.block g0 HO.out.lt)) hisb (blankZ_ok fr bl).2)
   have HFo := hid (isForeign_any (HJ2.out.below B4.out) HO4.out hisb)
   have HB4 := hid hbw4
   have HBw := hid (HB1.out.trans (hbw4.mono HB1.out.size))
   have hoa : otherAt fr bl s.life d.read i = (!decide (d.read (fr + 1 + i) = stampZ 1 0 (blankB fr bl)) && foreign s.life (d.read (fr + 1 + i))) := rfl
   generalize decide (d.read (fr + 1 + i) = stampZ 1 0 (blankB fr bl)) = be at *
   generalize foreign s.life (d.read (fr + 1 + i)) = bf at *
   have HOA := hid hoa
   clear hisb hbw4 HO4 B3 B4 HRD HLB n0 n1 n2 nc q0 q1 q2 qc m0 m1 m2 hc0 hcl hjl HJ2 hoa hg4
   cases be with
   | true =>
    go_wp2_with fail
    refine Calls.mono HE.out ?_
    rintro e w5 ⟨rfl, hw5⟩
    rw [hw5]
    clear hw5 HE HFo
    go_wp2_with fail
    go_roundw
    case rel => exact ⟨i + 1, by omega, by omega, by go_num, fun t h1 h2 => by
      by_cases q : t = i
      ·rw [q, HOA.out]; rfl
      ·exact HALL.out t h1 (by omega), HB4.out⟩
    case measure => simp [intOf]; omega
   | false =>
    cases bf with
    | true =>
     go_wp2_with fail
     refine Calls.mono HE.out ?_
     rintro e w5 ⟨rfl, hw5⟩
     rw [hw5]
     clear hw5 HE
     go_wp2_with fail
     refine Calls.mono HFo.out ?_
     rintro e w5 ⟨rfl, b5⟩
     have FIN : Hid (NoP fr bl s d.read (.returned (.int .i64 41)) ∧ Below w.heap.size w w5) := ⟨.inr ⟨rfl, i, hiu, by omega, HOA.out⟩, HBw.out.trans (b5.mono HBw.out.size)⟩
     clear b5 HFo
     go_wp2
     go_ret
     exact FIN.out
    | false =>
     go_wp2_with fail
     refine Calls.mono HE.out ?_
     rintro e w5 ⟨rfl, hw5⟩
     rw [hw5]
     clear hw5 HE
     go_wp2_with fail
     refine Calls.mono HFo.out ?_
     rintro e w5 ⟨rfl, b5⟩
     have HB5 := hid (HB4.out.trans (b5.mono HB4.out.size))
     clear b5 HFo
     go_wp2_with fail
     go_roundw
     case rel => exact ⟨i + 1, by omega, by omega, by go_num, fun t h1 h2 => by
       by_cases q : t = i
       ·rw [q, HOA.out]; rfl
       ·exact HALL.out t h1 (by omega), HB5.out⟩
     case measure => simp [intOf]; omega
  ·have hiN' : ¬ (i : Int) < (N : Int) := by omega
   have FIN : Hid (NoP fr bl s d.read (.returned (.int .i64 0)) ∧ Below w.heap.size w w2) := ⟨.inl ⟨rfl, fun t h1 h2 => HALL.out t h1 (by omega)⟩, HB1.out.trans (HB2.out.mono HB1.out.size)⟩
   clear HALL HB2 HJ2 HJr m0 m1 m2 hc0
   go_wp2
   go_ret
   exact FIN.out
open Go.RowKit Go.Shelf
def isPg (r n : Nat) (zs : List Int) : Bool := decide (zs.take 21 = hdgZ r n)
theorem own_cap {w : World} {G n cap : Nat} {zs : List Int} (hO : Own w G n cap zs) : n ≤ cap := by
 rcases hO.2 with ⟨q, _⟩ | ⟨g, c, cur, q, _, _, q2, _⟩
 ·cases q
 ·injection q with _ _ q; omega
set_option maxRecDepth 100000 in
set_option maxHeartbeats 4000000 in
theorem prefix_any {w : World} {G cap g c2 : Nat} {zs ys : List Int} (hO : Own w G 512 cap zs) (hP : Own w g 21 c2 ys) (b1 : Pl.isB zs) (b2 : Pl.isB ys) : Calls Tryz.prog 180 #[.slice (some ⟨G, 0, none⟩) 512 cap, .slice (some ⟨g, 0, none⟩) 21 c2] w fun e w' => e = .returned (.bool (decide (zs.take 21 = ys))) ∧ w' = w := by
 have hcap := own_cap hO
 have hl : (zs.take 21).length = 21 := by rw [List.length_take, hO.len]; rfl
 have HE : Hid (Calls Tryz.prog 169 #[.slice (some ⟨G, 0, none⟩) 21 cap, .slice (some ⟨g, 0, none⟩) 21 c2] w fun e w' => e = .returned (.bool (decide (zs.take 21 = ys))) ∧ w' = w) := by
  refine Calls.mono (Any.bytes_Equal_all equalA (some ⟨G, 0, none⟩) (some ⟨g, 0, none⟩) 21 cap 21 c2 (zs.take 21) ys w hl hP.len (fun _ => ⟨G, 0, rfl, fun i hi => ?_⟩) (fun _ => ⟨g, 0, rfl, fun i hi => by rw [Nat.zero_add]; exact hP.cell i hi⟩)) ?_
  ·rw [Nat.zero_add, hO.cell i (by have := hO.len; omega)]
   rw [List.getD_eq_getElem?_getD, List.getD_eq_getElem?_getD, List.getElem?_take_of_lt (by omega)]
  rintro e w' ⟨rfl, rfl⟩
  refine ⟨?_, rfl⟩
  congr 2
  by_cases q : zs.take 21 = ys
  ·simp [q]
  ·have : ¬ Lib.bytesOf (zs.take 21) = Lib.bytesOf ys := fun r => q (bytes_inj (Pl.isB_take b1 _) b2 r)
   simp [q, this]
 have hc21 : (21 : Int) ≤ (cap : Int) := by omega
 generalize decide (zs.take 21 = ys) = bb at *
 clear hO hP b1 b2 hl hcap
 go_enter Tryz.func180, Tryz.ntmps180
 go_wp2_with fail
 refine Calls.mono HE.out ?_
 rintro e w1 ⟨rfl, rfl⟩
 cases bb <;> (go_wp2; go_ret; exact ⟨rfl, rfl⟩)
set_option maxRecDepth 100000 in
set_option maxHeartbeats 4000000 in
theorem isPage_any {w : World} {G cap r n : Nat} {zs : List Int} (f : Int) (h1 : r ≤ 262144) (h2 : n ≤ 1024) (hO : Own w G 512 cap zs) (hb : Pl.isB zs) : Calls Tryz.prog 140 #[.agg #[.int .i64 f, .int .i64 (r : Int)], .slice (some ⟨G, 0, none⟩) 512 cap, .int .i64 (n : Int)] w fun e w' => e = .returned (.bool (isPg r n zs)) ∧ Below w.heap.size w w' := by
 obtain ⟨w0, hw0⟩ : ∃ w0, w0 = w.alloc (.cells #[.int .i64 f, .int .i64 (r : Int)] 92) := ⟨_, rfl⟩
 have z0 : w0.heap.size = w.heap.size + 1 := by rw [hw0]; simp
 have b0 : Below w.heap.size w w0 := by rw [hw0]; exact (Below.refl _ _).alloc (Nat.le_refl _) _
 have k0 : w0.cell? ⟨w.heap.size, 0, none⟩ = some (.int .i64 f) := by rw [hw0]; exact cell_new rfl 0 _ rfl
 have k1 : w0.cell? ⟨w.heap.size, 1, none⟩ = some (.int .i64 (r : Int)) := by rw [hw0]; exact cell_new rfl 1 _ rfl
 have HH : Hid (Calls Tryz.prog 141 #[.agg #[.int .i64 f, .int .i64 (r : Int)], .int .i64 (n : Int)] w0 fun e w2 => ∃ g c2, e = .returned (.slice (some ⟨g, 0, none⟩) 21 c2) ∧ Calls Tryz.prog 180 #[.slice (some ⟨G, 0, none⟩) 512 cap, .slice (some ⟨g, 0, none⟩) 21 c2] w2 fun e w' => e = .returned (.bool (isPg r n zs)) ∧ Below w.heap.size w w') := by
  refine Calls.mono (heading_any f h1 h2 w0) ?_
  rintro e w2 ⟨g, c2, rfl, hg, hH, b2⟩
  refine ⟨g, c2, rfl, Calls.mono (prefix_any (hO.keep ((b2.block G (by have := hO.lt; omega)).trans (b0.block G hO.lt))) hH hb (isB_hdgZ r n)) ?_⟩
  rintro e w3 ⟨rfl, rfl⟩
  exact ⟨rfl, b0.trans (b2.mono (by omega))⟩
 have HW := hid hw0
 generalize isPg r n zs = bb at *
 clear hw0 b0 z0 hO hb h1 h2
 go_enter Tryz.func140, Tryz.ntmps140
 go_wp2_with fail
 (try rw [← HW.out])
 (try go_wp2_with fail)
 refine Calls.mono HH.out ?_
 rintro e w2 ⟨g, c2, rfl, h⟩
 have H := hid h
 clear h HH k0 k1
 go_wp2_with fail
 refine Calls.mono H.out ?_
 rintro e w3 ⟨rfl, b⟩
 have B := hid b
 clear b H
 go_wp2
 go_ret
 exact ⟨rfl, B.out⟩
open Go.RowKit
theorem results_row_tmp {P : Program} {fn : Func} {p u : Tmp} {ty : TypeId} (h : fn.results = #[.cell p ty, .tmp u]) (tmps : Array Value) (w : World) (g : Nat) (t : TypeId) (cs : Array Value) (fr : Nat × Nat) (d : TypeDesc) (x : Value)
  (hp : tmps.getD p undef = .pointer (some ⟨g, 0, none⟩)) (hx : tmps.getD u undef = x) (hg : w.heap[g]? = some (.cells cs t fr))
  (hu : P.underlying ty = some d) (hd : (match d with | .struct _ | .array _ _ => true | _ => false) = true) (hi : (P.info? ty).map (·.size) = some cs.size) :
  (results fn tmps).run P w = .ok (.tuple #[.agg cs, x]) w := by
 rw [results_cell_tmp h, hp, hx]
 simp [asAddr, run_loadVar_row w g t ty cs fr d hg hu hd hi]
set_option maxRecDepth 100000 in
set_option maxHeartbeats 4000000 in
theorem look_nil (tv : Value) (w : World) : Calls Tryz.prog 50 #[.pointer none, tv] w fun e w' => e = .returned (.tuple #[.agg #[.pointer none, .int .i64 0, .int .i64 0, .pointer none], .int .i64 1]) ∧ Below w.heap.size w w' := by
 have B : Hid (Below w.heap.size w (w.alloc (.cells #[.pointer none, .int .i64 0, .int .i64 0, .pointer none] 103))) := (Below.refl _ _).alloc (Nat.le_refl _) _
 go_enter Tryz.func50, Tryz.ntmps50
 go_wp2
 exact bodyPost_ret (results_row_tmp rfl _ _ w.heap.size 103 #[.pointer none, .int .i64 0, .int .i64 0, .pointer none] (0, 0) _ (.int .i64 1) rfl rfl (heap_alloc_new _ _) Tryz.underlying103 rfl (by kernel_rfl)) rfl ⟨rfl, B.out⟩
set_option maxRecDepth 100000 in
set_option maxHeartbeats 4000000 in
theorem Size_nil (tv : Value) (w : World) : Calls Tryz.prog 19 #[.pointer none, tv] w fun e w' => e = .returned (.tuple #[.int .i64 0, .int .i64 1]) ∧ Below w.heap.size w w' := by
 have H := hid (look_nil tv w)
 go_enter Tryz.func19, Tryz.ntmps19
 go_wp2_with fail
 refine Calls.mono H.out ?_
 rintro e w1 ⟨rfl, b1⟩
 have B1 : Hid (Below w.heap.size w (w1.alloc (.cells #[.pointer none, .int .i64 0, .int .i64 0, .pointer none] 103))) := b1.alloc b1.size _
 clear b1 H
 go_wp2
 go_ret2
 exact ⟨rfl, B1.out⟩
set_option maxRecDepth 100000 in
set_option maxHeartbeats 4000000 in
theorem Alloc_nil (tv : Value) (w : World) : Calls Tryz.prog 24 #[.pointer none, tv] w fun e w' => e = .returned (.tuple #[.int .i64 0, .int .i64 1]) ∧ Below w.heap.size w w' := by
 have H := hid (look_nil tv w)
 go_enter Tryz.func24, Tryz.ntmps24
 go_wp2_with fail
 refine Calls.mono H.out ?_
 rintro e w1 ⟨rfl, b1⟩
 have B1 : Hid (Below w.heap.size w (w1.alloc (.cells #[.pointer none, .int .i64 0, .int .i64 0, .pointer none] 103))) := b1.alloc b1.size _
 clear b1 H
 go_wp2
 go_ret2
 exact ⟨rfl, B1.out⟩
set_option maxRecDepth 100000 in
set_option maxHeartbeats 4000000 in
theorem Ref_nil (tv : Value) (b : Int) (w : World) : Calls Tryz.prog 25 #[.pointer none, tv, .int .i64 b] w fun e w' => e = .returned (.int .i64 1) ∧ Below w.heap.size w w' := by
 have H := hid (look_nil tv w)
 go_enter Tryz.func25, Tryz.ntmps25
 go_wp2_with fail
 refine Calls.mono H.out ?_
 rintro e w1 ⟨rfl, b1⟩
 have B1 : Hid (Below w.heap.size w (w1.alloc (.cells #[.pointer none, .int .i64 0, .int .i64 0, .pointer none] 103))) := b1.alloc b1.size _
 clear b1 H
 go_wp2
 go_ret
 exact ⟨rfl, B1.out⟩
set_option maxRecDepth 100000 in
set_option maxHeartbeats 4000000 in
theorem Unref_nil (tv : Value) (b : Int) (w : World) : Calls Tryz.prog 26 #[.pointer none, tv, .int .i64 b] w fun e w' => e = .returned (.tuple #[.int .i64 0, .int .i64 1]) ∧ Below w.heap.size w w' := by
 have H := hid (look_nil tv w)
 go_enter Tryz.func26, Tryz.ntmps26
 go_wp2_with fail
 refine Calls.mono H.out ?_
 rintro e w1 ⟨rfl, b1⟩
 have B1 : Hid (Below w.heap.size w (w1.alloc (.cells #[.pointer none, .int .i64 0, .int .i64 0, .pointer none] 103))) := b1.alloc b1.size _
 clear b1 H
 go_wp2
 go_ret2
 exact ⟨rfl, B1.out⟩
set_option maxRecDepth 100000 in
set_option maxHeartbeats 4000000 in
theorem Grow_nil (tv : Value) (b : Int) (w : World) : Calls Tryz.prog 27 #[.pointer none, tv, .int .i64 b] w fun e w' => e = .returned (.int .i64 1) ∧ Below w.heap.size w w' := by
 have H := hid (look_nil tv w)
 go_enter Tryz.func27, Tryz.ntmps27
 go_wp2_with fail
 refine Calls.mono H.out ?_
 rintro e w1 ⟨rfl, b1⟩
 have B1 : Hid (Below w.heap.size w (w1.alloc (.cells #[.pointer none, .int .i64 0, .int .i64 0, .pointer none] 103))) := b1.alloc b1.size _
 clear b1 H
 go_wp2
 go_ret
 exact ⟨rfl, B1.out⟩
set_option maxRecDepth 100000 in
set_option maxHeartbeats 4000000 in
theorem Free_nil (tv : Value) (w : World) : Calls Tryz.prog 39 #[.pointer none, tv] w fun e w' => e = .returned (.tuple #[.int .i64 0, .int .i64 1]) ∧ Below w.heap.size w w' := by
 have H := hid (look_nil tv w)
 go_enter Tryz.func39, Tryz.ntmps39
 go_wp2_with fail
 refine Calls.mono H.out ?_
 rintro e w1 ⟨rfl, b1⟩
 have B1 : Hid (Below w.heap.size w (w1.alloc (.cells #[.pointer none, .int .i64 0, .int .i64 0, .pointer none] 103))) := b1.alloc b1.size _
 clear b1 H
 go_wp2
 go_ret2
 exact ⟨rfl, B1.out⟩
set_option maxRecDepth 100000 in
set_option maxHeartbeats 4000000 in
theorem Count_nil (tv : Value) (b : Int) (w : World) : Calls Tryz.prog 46 #[.pointer none, tv, .int .i64 b] w fun e w' => e = .returned (.tuple #[.int .i64 0, .int .i64 1]) ∧ Below w.heap.size w w' := by
 have H := hid (look_nil tv w)
 go_enter Tryz.func46, Tryz.ntmps46
 go_wp2_with fail
 refine Calls.mono H.out ?_
 rintro e w1 ⟨rfl, b1⟩
 have B1 : Hid (Below w.heap.size w (w1.alloc (.cells #[.pointer none, .int .i64 0, .int .i64 0, .pointer none] 103))) := b1.alloc b1.size _
 clear b1 H
 go_wp2
 go_ret2
 exact ⟨rfl, B1.out⟩
open Go.RowKit Go.Deep
set_option maxRecDepth 100000 in
set_option maxHeartbeats 16000000 in
theorem snils_any (tv : Value) (w : World) : Calls Tryz.prog 16 #[tv] w fun e w' => e = .returned (.bool true) ∧ Below w.heap.size w w' := by
 obtain ⟨PO, hPO⟩ : ∃ PO : Ending → World → Prop, PO = fun e w' => e = .returned (.bool true) ∧ Below w.heap.size w w' := ⟨_, rfl⟩
 rw [← hPO]
 have HFin : Hid (∀ w', Below w.heap.size w w' → PO (.returned (.bool true)) w') := fun w' hb => by rw [hPO]; exact ⟨rfl, hb⟩
 have B00 : Hid (Below w.heap.size w w) := Below.refl _ _
 clear hPO
 go_enter Tryz.func16, Tryz.ntmps16
 go_wp2_with fail
 go_loopw [4, 0] (fun iv tv wr => ∃ (j : Nat), j ≤ 2 ∧ iv = .int .i64 (j : Int) ∧ Below w.heap.size w wr) (fun iv _ _ => 2 - (intOf iv).toNat)
 case atStart => exact ⟨0, Nat.zero_le _, rfl, B00.out⟩
 case round =>
  clear B00
  rename World => wo
  obtain ⟨j, hj2, rfl, hB⟩ := hrel
  have B0 := hid hB
  clear hB
  by_cases hj : j < 2
  ·have hj' : (j : Int) < 2 := by omega
   go_wp2_with fail
   refine Calls.mono (Alloc_nil _ wo) ?_
   rintro e w1 ⟨rfl, b⟩
   have B1 : Hid (Below w.heap.size w w1) := B0.out.trans (b.mono B0.out.size)
   clear b B0
   go_wp2_with fail
   refine Calls.mono (Unref_nil _ 1 w1) ?_
   rintro e w2 ⟨rfl, b⟩
   have B2 : Hid (Below w.heap.size w w2) := B1.out.trans (b.mono B1.out.size)
   clear b B1
   go_wp2_with fail
   refine Calls.mono (Count_nil _ 1 w2) ?_
   rintro e w3 ⟨rfl, b⟩
   have B3 : Hid (Below w.heap.size w w3) := B2.out.trans (b.mono B2.out.size)
   clear b B2
   go_wp2_with fail
   refine Calls.mono (Free_nil _ w3) ?_
   rintro e w4 ⟨rfl, b⟩
   have B4 : Hid (Below w.heap.size w w4) := B3.out.trans (b.mono B3.out.size)
   clear b B3
   go_wp2_with fail
   refine Calls.mono (Size_nil _ w4) ?_
   rintro e w5 ⟨rfl, b⟩
   have B5 : Hid (Below w.heap.size w w5) := B4.out.trans (b.mono B4.out.size)
   clear b B4
   go_wp2_with fail
   refine Calls.mono (num_any 1 w5) ?_
   rintro e w9 ⟨rfl, hw9⟩
   rw [hw9]
   clear hw9
   go_wp2_with fail
   refine Calls.mono (num_any 1 w5) ?_
   rintro e w9 ⟨rfl, hw9⟩
   rw [hw9]
   clear hw9
   go_wp2_with fail
   refine Calls.mono (num_any 1 w5) ?_
   rintro e w9 ⟨rfl, hw9⟩
   rw [hw9]
   clear hw9
   go_wp2_with fail
   refine Calls.mono (num_any 1 w5) ?_
   rintro e w9 ⟨rfl, hw9⟩
   rw [hw9]
   clear hw9
   go_wp2_with fail
   refine Calls.mono (num_any 1 w5) ?_
   rintro e w9 ⟨rfl, hw9⟩
   rw [hw9]
   clear hw9
   go_wp2_with fail
   refine Calls.mono (Ref_nil _ 1 w5) ?_
   rintro e w6 ⟨rfl, b⟩
   have B6 : Hid (Below w.heap.size w w6) := B5.out.trans (b.mono B5.out.size)
   clear b B5
   go_wp2_with fail
   refine Calls.mono (num_any 1 w6) ?_
   rintro e w9 ⟨rfl, hw9⟩
   rw [hw9]
   clear hw9
   go_wp2_with fail
   refine Calls.mono (Grow_nil _ 9 w6) ?_
   rintro e w7 ⟨rfl, b⟩
   have B7 : Hid (Below w.heap.size w w7) := B6.out.trans (b.mono B6.out.size)
   clear b B6
   go_wp2_with fail
   refine Calls.mono (num_any 1 w7) ?_
   rintro e w9 ⟨rfl, hw9⟩
   rw [hw9]
   clear hw9
   go_wp2_with fail
   go_roundw
   case rel => exact ⟨j + 1, by omega, by go_num, B7.out⟩
   case measure => simp [intOf]; omega
  ·have hje : j = 2 := by omega
   subst hje
   have FIN := hid (HFin.out _ B0.out)
   clear HFin B0
   go_wp2
   exact FIN.out
end Go.Proofs.YtlefjidbpjkhlaaGreat
