import Derived.Test.YtldlejpacgphmaaGreatG29
import Derived.Test.YtldlejpacgphmaaGreatG24
namespace Go.Proofs.YtldlejpacgphmaaGreat
open Go.RowKit
theorem Cq.new {w2 w3 : World} {B c p room nb : Nat} {I : List Int} {fu : Int} (hD : Dk (fun x => B ≤ x) w2 p I [] fu false nb) (hC : Cst (fun k => w2.heap.size ≤ k) w3 c p room 0 0 []) (hb : Below w2.heap.size w2 w3) (hB : B ≤ w2.heap.size) : Cq (fun k => B ≤ k ∧ k < w3.heap.size) w3 c p room nb 0 ⟨I, [], fu, false⟩ := by
 refine ⟨fun k => B ≤ k ∧ k < w2.heap.size, fun k => w2.heap.size ≤ k ∧ k < w3.heap.size, 0, 0, [], ⟨hC.cut, hD.cut.keep (fun k _ hk => hb.block k hk), fun k q q' => by omega⟩, fun k q => ⟨q.1, Nat.lt_of_lt_of_le q.2 hb.size⟩, fun k q => ⟨by omega, q.2⟩, fun k q => q.2, Good.nil _ _ _, ⟨by omega, by omega⟩, ⟨by omega, by omega⟩⟩
set_option maxRecDepth 100000 in
set_option maxHeartbeats 4000000 in
theorem probe_any {X : Nat → Prop} {w : World} {wb p0 c0 : Nat} {jv : Value} {g room : Nat} {lasted : Int} {off : Bool} {tried tl td : Value} {hb hc nb fr bl : Nat} {H : List Int} {ta : Option Addr} {tc : Nat} {vs : List Value} {Us : List (List Pm)} (hW : Wb w wb p0 c0 jv g (room : Int) lasted off false tried tl td) (hL : LgW X w g hb hc nb fr bl H ta tc vs Us) (r1 : 1 ≤ room) (r2 : room ≤ 4096)
  {ib ic : Nat} {I : List Int} (hI : Own w ib (512 * nb) ic I) (hIb : Pl.isB I) {d : Pd} {lo : Nat} (hC : Cut d nb fr bl lo (imgB H) (plainT Us)) (hP : ∀ x, x < nb → d.poss x (imgB I x)) (hla : lasted ≤ (lo : Int)) (hlo : 16 ≤ bl) (hfit : fr + bl ≤ nb) (hnb : nb ≤ 524288) (hUs : Us.length ≤ 1099511627776) :
  Calls Tryz.prog 13 #[.pointer (some ⟨wb, 0, none⟩), .slice (some ⟨ib, 0, none⟩) (512 * nb) ic] w fun e w' => e = .returned (.bool true) ∧ Below w.heap.size w w' := by
 have HCp := hid (CopyBytes_any (some ⟨ib, 0, none⟩) (512 * nb) ic I w (by omega) (by simp) (hI.rd hIb))
 have HOd : Hid (∀ (w1 : World) (g1 cp1 : Nat), Own w1 g1 (512 * nb) cp1 I → Calls Tryz.prog 21 #[.slice (some ⟨g1, 0, none⟩) (512 * nb) cp1] w1 fun e w' => ∃ p, e = .returned (.tuple #[.pointer (some ⟨p, 0, none⟩), .int .i64 0]) ∧ w1.heap.size ≤ p ∧ Dk (fun x => w1.heap.size ≤ x) w' p I [] (-1) false nb ∧ Below w1.heap.size w1 w') := fun w1 g1 cp1 ho => Open_ok ⟨g1, 0, none⟩ nb cp1 I w1 (by omega) hnb (ho.rd hIb)
 have HNm := hid (num_any 0)
 have HNw := hid (fun (w2 : World) (p : Nat) => CNew_ok (w := w2) p room r1 r2)
 have hwl := hW.lt
 have hgl := hL.gl
 have k3 : w.cell? ⟨wb, 3, none⟩ = some (.pointer (some ⟨g, 0, none⟩)) := hW.cell 3
 have k4 : w.cell? ⟨wb, 4, none⟩ = some (.int .i64 (room : Int)) := hW.cell 4
 have c1 := hL.lg.c1
 have c2 := hL.lg.c2
 have HOJ : Hid (∀ (w1 w2 w3 : World) (p c : Nat), Below w.heap.size w w1 → Below w1.heap.size w1 w2 → Below w2.heap.size w2 w3 → Dk (fun x => w1.heap.size ≤ x) w2 p I [] (-1) false nb → Cst (fun k => w2.heap.size ≤ k) w3 c p room 0 0 [] →
   Calls Tryz.prog 27 #[.pointer (some ⟨c, 0, none⟩), .int .i64 (fr : Int), .int .i64 (bl : Int)] w3.drew fun e w4 => ∃ j s d' n Z', e = .returned (.tuple #[.pointer (some ⟨j, 0, none⟩), .int .i64 0]) ∧ (Jq Z' w4 j c p room nb 0 fr bl d' s ∧ On d' s nb fr bl n (imgB H) (plainT (Us.take n)) ∧ n ≤ Us.length ∧ lasted ≤ (n : Int) ∧ Below w.heap.size w w4 ∧ (∀ k, k < w.heap.size → ¬ Z' k)) ∧ w.heap.size ≤ j ∧ w4.cell? ⟨wb, 3, none⟩ = some (.pointer (some ⟨g, 0, none⟩)) ∧ w4.cell? ⟨g, 1, none⟩ = some (.int .i64 (fr : Int)) ∧ w4.cell? ⟨g, 2, none⟩ = some (.int .i64 (bl : Int))) := fun w1 w2 w3 p c b1 b2 b3 hD hCs => by
  have s1 := b1.size
  have s2 := b2.size
  have s3 := b3.size
  have hq := (Cq.new hD hCs b3 s2).drew
  have hft := hq.fits
  refine Calls.mono (Open_any hq (fr : Int) (bl : Int) (by simp only [List.length_nil]; omega)) ?_
  intro e w4 hO
  obtain ⟨b4, jv, code, rfl, n, Z', d', n1, n2, gr, hcase⟩ := OpenP.cut hO hC hlo hfit hnb hP hft.1
  rcases hcase with ⟨_, h1, _⟩ | ⟨rfl, j, s, rfl, hj, hJ, hOn⟩
  ·exact absurd rfl h1
  ·have bb : Below w.heap.size w w4 := by
    have q : Below w.heap.size w w3 := (b1.trans (b2.mono s1)).trans (b3.mono (by omega))
    exact ((But.of_below q.drew (X := fun k => w.heap.size ≤ k)).comp b4 (fun k hk q => by omega)).below (Nat.le_refl _) (fun k hk q => by omega)
   refine ⟨j, s, d', n, Z', rfl, ⟨hJ, by rw [plainT_take]; exact hOn, by simpa [plainT] using n2, by omega, bb, fun k hk q => ?_⟩, by have : w3.heap.size ≤ j := hj; omega, (bb.cell (p := ⟨wb, 3, none⟩) hwl).trans k3, (bb.cell (p := ⟨g, 1, none⟩) hgl).trans c1, (bb.cell (p := ⟨g, 2, none⟩) hgl).trans c2⟩
   have := (gr k (by show k < w3.heap.size; omega) q).1
   omega
 have HOpd : Hid (∀ (w4 : World) (j c p n : Nat) (s : Js) (d' : Pd) (Z' : Nat → Prop), (Jq Z' w4 j c p room nb 0 fr bl d' s ∧ On d' s nb fr bl n (imgB H) (plainT (Us.take n)) ∧ n ≤ Us.length ∧ lasted ≤ (n : Int) ∧ Below w.heap.size w w4 ∧ (∀ k, k < w.heap.size → ¬ Z' k)) → Calls Tryz.prog 30 #[.pointer (some ⟨wb, 0, none⟩), .pointer (some ⟨j, 0, none⟩)] w4 fun e w5 => ∃ g', e = .returned (.tuple #[.pointer (some ⟨g', 0, none⟩), .bool true]) ∧ Below w.heap.size w w5) := fun w4 j c p n s d' Z' hq => by
  obtain ⟨hJ, hOn, hn, hl, bb, hz⟩ := hq
  refine Calls.mono (opened_any (X := fun k => (X k ∧ k < w.heap.size) ∨ w.heap.size ≤ k) (Z := Z') (hW.keep (bb.block wb hwl)) (hL.below bb _ (fun k hk q => by rcases q with q | q; exact q.1; omega)) hJ hOn hn hl (fun k _ q => .inr (Classical.byContradiction fun r => hz k (by omega) q)) hlo hfit hUs (by omega)) ?_
  rintro e w5 ⟨g', _, _, _, Z'', rfl, _, _, _, _, _, b5⟩
  exact ⟨g', rfl, ((But.of_below bb (X := fun k => w.heap.size ≤ k)).comp b5 (fun k hk q => absurd q (hz k hk))).below (Nat.le_refl _) (fun k hk q => by omega)⟩
 clear hW hL hI hIb hC hP hla
 obtain ⟨L, hLe⟩ : ∃ L, L = 512 * nb := ⟨_, rfl⟩
 rw [← hLe] at HCp HOd ⊢
 clear hLe
 go_enter Tryz.func13, Tryz.ntmps13
 go_wp2_with fail
 refine Calls.mono HCp.out ?_
 rintro e w1 ⟨g1, cp1, rfl, hg1, o1, b1⟩
 have HO1 := hid (HOd.out w1 g1 cp1 o1)
 have B1 := hid b1
 have hs1 := b1.size
 clear HCp HOd o1 b1
 go_wp2_with fail
 refine Calls.mono HO1.out ?_
 rintro e w2 ⟨p, rfl, hp, dk, b2⟩
 have B2 := hid b2
 have DK := hid dk
 have hs2 := b2.size
 have HN2 := hid (HNm.out w2)
 have m4 := ((B1.out.trans (b2.mono hs1)).cell (p := ⟨wb, 4, none⟩) hwl).trans k4
 have HW2 := hid (HNw.out w2 p)
 clear HO1 dk b2 k4 HNw
 go_wp2_with fail
 refine Calls.mono HN2.out ?_
 rintro e w9 ⟨rfl, hw9⟩
 rw [hw9]
 clear hw9 HN2
 go_wp2_with fail
 refine Calls.mono HW2.out ?_
 rintro e w3 ⟨c, rfl, hc3, cs, b3⟩
 have hs3 := b3.size
 have HOp := hid (HOJ.out w1 w2 w3 p c B1.out B2.out b3 DK.out cs)
 have HN3 := hid (HNm.out w3)
 have q3 : Below w.heap.size w w3 := (B1.out.trans (B2.out.mono hs1)).trans (b3.mono (by omega))
 have e3 := (q3.cell (p := ⟨wb, 3, none⟩) hwl).trans k3
 have h1 := (q3.cell (p := ⟨g, 1, none⟩) hgl).trans c1
 have h2 := (q3.cell (p := ⟨g, 2, none⟩) hgl).trans c2
 clear HW2 cs b3 HOJ DK B2 B1 q3 m4 k3 c1 c2
 go_wp2_with fail
 refine Calls.mono HN3.out ?_
 rintro e w9 ⟨rfl, hw9⟩
 rw [hw9]
 clear hw9 HN3
 go_wp2_with fail
 refine wp_region_held_drew (S := fun w' => w'.cell? ⟨wb, 3, none⟩ = some (.pointer (some ⟨g, 0, none⟩)) ∧ w'.cell? ⟨g, 1, none⟩ = some (.int .i64 (fr : Int)) ∧ w'.cell? ⟨g, 2, none⟩ = some (.int .i64 (bl : Int))) (by kernel_rfl) ⟨e3, h1, h2⟩ (fun hSS => ?_)
 apply tk 0 (some 43) (.move (.tmp 7)) 38 none rfl (by kernel_rfl) (fun _ _ _ h => h) (by rfl) hSS
 ·(intro a h; (try dsimp only at h); (try go_split_ands); go_simp; try with_reducible rfl)
 apply tk 1 (some 44) (.move (.tmp 0)) 27 none rfl (by kernel_rfl) (fun _ _ _ h => h) (by rfl) hSS
 ·(intro a h; (try dsimp only at h); (try go_split_ands); go_simp; try with_reducible rfl)
 apply tk 2 (some 45) (.nilCheck (.tmp 44)) 0 none rfl (by kernel_rfl) (fun _ _ _ h => h) (by rfl) hSS
 ·(intro a h; (try dsimp only at h); (try go_split_ands); go_simp; try with_reducible rfl)
 apply tk 3 (some 46) (.fieldAddr 45 (.tmp 45) 3) 0 none rfl (by kernel_rfl) (fun _ _ _ h => h) (by rfl) hSS
 ·(intro a h; (try dsimp only at h); (try go_split_ands); go_simp; try with_reducible rfl)
 try simp only [Act.put, List.setIfInBounds_toArray, List.set_cons_zero, List.set_cons_succ]
 apply tk 4 (some 47) (.load 40 (.tmp 46)) 40 none rfl (by kernel_rfl) (fun _ _ _ h => h) (by rfl) hSS
 ·(intro a h; (try dsimp only at h); (try go_split_ands); go_simp; try with_reducible rfl)
 apply tk 5 (some 48) (.nilCheck (.tmp 47)) 0 none rfl (by kernel_rfl) (fun _ _ _ h => h) (by rfl) hSS
 ·(intro a h; (try dsimp only at h); (try go_split_ands); go_simp; try with_reducible rfl)
 apply tk 6 (some 49) (.fieldAddr 48 (.tmp 48) 1) 0 none rfl (by kernel_rfl) (fun _ _ _ h => h) (by rfl) hSS
 ·(intro a h; (try dsimp only at h); (try go_split_ands); go_simp; try with_reducible rfl)
 apply tk 7 (some 50) (.load 3 (.tmp 49)) 3 none rfl (by kernel_rfl) (fun _ _ _ h => h) (by rfl) hSS
 ·(intro a h; (try dsimp only at h); (try go_split_ands); go_simp; try with_reducible rfl)
 try simp only [Act.put, List.setIfInBounds_toArray, List.set_cons_zero, List.set_cons_succ]
 apply tk 8 (some 51) (.move (.tmp 0)) 27 none rfl (by kernel_rfl) (fun _ _ _ h => h) (by rfl) hSS
 ·(intro a h; (try dsimp only at h); (try go_split_ands); go_simp; try with_reducible rfl)
 apply tk 9 (some 52) (.nilCheck (.tmp 51)) 0 none rfl (by kernel_rfl) (fun _ _ _ h => h) (by rfl) hSS
 ·(intro a h; (try dsimp only at h); (try go_split_ands); go_simp; try with_reducible rfl)
 apply tk 10 (some 53) (.fieldAddr 45 (.tmp 52) 3) 0 none rfl (by kernel_rfl) (fun _ _ _ h => h) (by rfl) hSS
 ·(intro a h; (try dsimp only at h); (try go_split_ands); go_simp; try with_reducible rfl)
 apply tk 11 (some 54) (.load 40 (.tmp 53)) 40 none rfl (by kernel_rfl) (fun _ _ _ h => h) (by rfl) hSS
 ·(intro a h; (try dsimp only at h); (try go_split_ands); go_simp; try with_reducible rfl)
 try simp only [Act.put, List.setIfInBounds_toArray, List.set_cons_zero, List.set_cons_succ]
 apply tk 12 (some 55) (.nilCheck (.tmp 54)) 0 none rfl (by kernel_rfl) (fun _ _ _ h => h) (by rfl) hSS
 ·(intro a h; (try dsimp only at h); (try go_split_ands); go_simp; try with_reducible rfl)
 apply tk 13 (some 56) (.fieldAddr 48 (.tmp 55) 2) 0 none rfl (by kernel_rfl) (fun _ _ _ h => h) (by rfl) hSS
 ·(intro a h; (try dsimp only at h); (try go_split_ands); go_simp; try with_reducible rfl)
 apply tk 14 (some 57) (.load 3 (.tmp 56)) 3 none rfl (by kernel_rfl) (fun _ _ _ h => h) (by rfl) hSS
 ·(intro a h; (try dsimp only at h); (try go_split_ands); go_simp; try with_reducible rfl)
 try simp only [Act.put, List.setIfInBounds_toArray, List.set_cons_zero, List.set_cons_succ]
 refine wpAnyH_ready (rs := [15]) (by kernel_rfl) (by simp) (AllReadyH.cons (o := ({ dst := some 58, op := Op.call { callee := Callee.value (Operand.func 27), args := #[Operand.tmp 43, Operand.tmp 50, Operand.tmp 57], argTypes := #[38, 3, 3] }, type := 70, pos := _, after := _, guard := none } : Oper)) rfl (fun K9 hK9 => ?_) AllReadyH.nil)
 go_simp
 go_at_call 27
 refine Calls.mono HOp.out ?_
 rintro e w4 ⟨j, s, d', n, Z', rfl, FIN, hjp, f3, i1, i2⟩
 have HF := hid FIN
 clear FIN HOp
 refine hK9.out _ _ ⟨f3, i1, i2⟩ (fun hSS => ?_)
 clear hK9 K9
 try simp only [Act.put, List.setIfInBounds_toArray, List.set_cons_zero, List.set_cons_succ]
 apply tk 16 (some 42) (.move (.tmp 58)) 70 none rfl (by kernel_rfl) (fun _ _ _ h => h) (by rfl) hSS
 ·(intro a h; (try dsimp only at h); (try go_split_ands); go_simp; try with_reducible rfl)
 apply tk 17 (some 59) (.extract (.tmp 42) 0) 39 none rfl (by kernel_rfl) (fun _ _ _ h => h) (by rfl) hSS
 ·(intro a h; (try dsimp only at h); (try go_split_ands); go_simp; try with_reducible rfl)
 try simp only [Act.put, List.setIfInBounds_toArray, List.set_cons_zero, List.set_cons_succ]
 apply tk 18 (some 60) (.extract (.tmp 42) 1) 55 none rfl (by kernel_rfl) (fun _ _ _ h => h) (by rfl) hSS
 ·(intro a h; (try dsimp only at h); (try go_split_ands); go_simp; try with_reducible rfl)
 apply tk 19 (some 9) (.assign (.tmp 59)) 39 none rfl (by kernel_rfl) (fun _ _ _ h => h) (by rfl) hSS
 ·(intro a h; (try dsimp only at h); (try go_split_ands); go_simp; try with_reducible rfl)
 apply tk 20 (some 10) (.assign (.tmp 60)) 55 none rfl (by kernel_rfl) (fun _ _ _ h => h) (by rfl) hSS
 ·(intro a h; (try dsimp only at h); (try go_split_ands); go_simp; try with_reducible rfl)
 try simp only [Act.put, List.setIfInBounds_toArray, List.set_cons_zero, List.set_cons_succ]
 refine wpAnyH_done (by kernel_rfl) ?_ _
 have HN4 := hid (HNm.out w4)
 have HP4 := hid (HOpd.out w4 j c p n s d' Z' HF.out)
 clear HF HNm HOpd f3 i1 i2 e3 h1 h2 hSS
 go_wp2_with fail
 refine Calls.mono HN4.out ?_
 rintro e w9 ⟨rfl, hw9⟩
 rw [hw9]
 clear hw9 HN4
 go_wp2_with fail
 refine Calls.mono HP4.out ?_
 rintro e w5 ⟨g', rfl, b5⟩
 have FIN := hid b5
 clear b5 HP4
 go_wp2
 go_ret
 exact ⟨rfl, FIN.out⟩
end Go.Proofs.YtldlejpacgphmaaGreat
namespace Go.Proofs.YtldlejpacgphmaaGreat
open Go.RowKit
theorem GoodK.more {n m : Nat} {ks : List Int} (h : GoodK n ks) (hm : n ≤ m) : GoodK m ks := fun i hi => ⟨(h i hi).1, by have := (h i hi).2; omega⟩
theorem GoodK.snoc {n : Nat} {ks : List Int} (h : GoodK n ks) : GoodK (n + 1) (ks ++ [(n : Int)]) := fun i hi => by
 simp at hi
 by_cases hl : i < ks.length
 ·have e : ∀ j, j < ks.length → (ks ++ [(n : Int)]).getD j 0 = ks.getD j 0 := fun j hj => by
   rw [List.getD_eq_getElem?_getD, List.getD_eq_getElem?_getD, List.getElem?_append_left hj]
  obtain ⟨h1, h2⟩ := h i hl
  rw [e i hl]
  refine ⟨?_, by omega⟩
  unfold leastK at h1 ⊢
  split
  ·rename_i q
   rw [if_pos q] at h1
   exact h1
  ·rename_i q
   rw [if_neg q] at h1
   rw [e (i - 1) (by omega)]
   exact h1
 ·have hie : i = ks.length := by omega
  subst hie
  have e : (ks ++ [(n : Int)]).getD ks.length 0 = (n : Int) := by rw [List.getD_eq_getElem?_getD, List.getElem?_append_right (Nat.le_refl _)]; simp
  rw [e]
  refine ⟨?_, by omega⟩
  unfold leastK
  split
  ·omega
  ·rename_i q
   have hj : ks.length - 1 < ks.length := by omega
   rw [List.getD_eq_getElem?_getD, List.getElem?_append_left hj, ← List.getD_eq_getElem?_getD]
   have := (h _ hj).2
   omega
set_option maxRecDepth 100000 in
set_option maxHeartbeats 4000000 in
theorem kept_any (mask : Int) (n : Nat) (hn : n ≤ 1073741824) (w : World) :
  Calls Tryz.prog 53 #[.int .u64 mask, .int .i64 (n : Int)] w fun e w' => ∃ a m cap ks, e = .returned (.slice a m cap) ∧ w'.ownsRow w.heap.size 3 1 (.slice a m cap) m (ks.map (Value.int .i64)) ∧ m ≤ n ∧ GoodK n ks ∧ Below w.heap.size w w' := by
 obtain ⟨i3, hi3, hz3, hs3, hb3⟩ := info_parts info3
 obtain ⟨PO, hPO⟩ : ∃ PO : Ending → World → Prop, PO = fun e w' => ∃ a m cap ks, e = .returned (.slice a m cap) ∧ w'.ownsRow w.heap.size 3 1 (.slice a m cap) m (ks.map (Value.int .i64)) ∧ m ≤ n ∧ GoodK n ks ∧ Below w.heap.size w w' := ⟨_, rfl⟩
 rw [← hPO]
 have HPO := hid hPO
 clear hPO
 go_enter Tryz.func53, Tryz.ntmps53
 go_wp2_with fail
 go_loopw [5, 6] (fun ov iv wr => ∃ (i m cap : Nat) (a : Option Addr) (ks : List Int), i ≤ n ∧ m ≤ i ∧ iv = .int .i64 (i : Int) ∧ ov = .slice a m cap ∧ wr.ownsRow w.heap.size 3 1 (.slice a m cap) m (ks.map (Value.int .i64)) ∧ GoodK i ks ∧ Below w.heap.size w wr) (fun _ iv _ => n - (intOf iv).toNat)
 case atStart => exact ⟨0, 0, 0, none, [], Nat.zero_le _, Nat.le_refl _, rfl, rfl, World.ownsRow_nil _ _ _ _, (fun i hi => by simp at hi), Below.refl _ _⟩
 case round =>
  obtain ⟨i, m, cap, a, ks, hin, hmi, rfl, rfl, hrow, hgk, hbt⟩ := hrel
  by_cases hi : i < n
  ·have hi' : (i : Int) < (n : Int) := by omega
   have HQ := hid (And.intro hrow (And.intro hgk hbt))
   clear hrow hgk hbt
   have hsw := HQ.out.2.2.size
   have HRow := hid (owns_below HQ.out.1 ((Below.refl wr.heap.size wr).alloc (Nat.le_refl _) (.cells #[.int .i64 (i : Int)] 3)))
   have HFA : Hid (∀ (g4 cap4 : Nat) (w6 : World), w6.ownsRow w.heap.size 3 1 (.slice (some ⟨g4, 0, none⟩) (m + 1) cap4) (m + 1) (ks.map (Value.int .i64) ++ [.int .i64 (i : Int)]) → (wr.alloc (.cells #[.int .i64 (i : Int)] 3)).grownBy w6 (Value.slice a m cap).ownBlock → w6.ownsRow w.heap.size 3 1 (.slice (some ⟨g4, 0, none⟩) (m + 1) cap4) (m + 1) ((ks ++ [(i : Int)]).map (Value.int .i64)) ∧ GoodK (i + 1) (ks ++ [(i : Int)]) ∧ Below w.heap.size w w6) := fun g4 cap4 w6 h1 h2 => by
    refine ⟨by rw [List.map_append]; exact h1, HQ.out.2.1.snoc, ?_⟩
    have bb : But (fun k => w.heap.size ≤ k) w w6 := ((But.of_below HQ.out.2.2 (X := fun k => w.heap.size ≤ k)).alloc (.cells #[.int .i64 (i : Int)] 3)).of_grown h2 (fun x e _ => (World.ownsRow.lt HQ.out.1 x e).1)
    exact bb.below (Nat.le_refl _) (fun k hk q => by omega)
   by_cases h1 : mask = 18446744073709551615
   ·subst h1
    go_wp2_with (at_builtin; refine wpList_append_lies _ rfl _ _ _ rfl w.heap.size 3 i3 (.int .i64 0) 1 8 Tryz.underlying94 hi3 hz3 hs3 hb3 rfl (by decide) _ m _ rfl (by exact HRow.out) ⟨wr.heap.size, 0, none⟩ 1 1 [.int .i64 (i : Int)] rfl rfl (by exact newsI1 wr _ _) (by intro u hu; simp at hu; subst hu; rfl) (by decide) (by unfold maxLen; omega) (by omega) (by simp; omega) (wr.heap.size + 1) (by simp) ?_; intro g4 cap4 w6 ho4 hg4 _ _; have FA : Hid (w6.ownsRow w.heap.size 3 1 (.slice (some ⟨g4, 0, none⟩) (m + 1) cap4) (m + 1) ((ks ++ [(i : Int)]).map (Value.int .i64)) ∧ GoodK (i + 1) (ks ++ [(i : Int)]) ∧ Below w.heap.size w w6) := HFA.out g4 cap4 w6 ho4 hg4; clear ho4 hg4)
    refine ⟨⟨i + 1, m + 1, cap4, some ⟨g4, 0, none⟩, ks ++ [(i : Int)], by omega, by omega, by go_num, rfl, FA.out.1, FA.out.2.1, FA.out.2.2⟩, ?_⟩
    simp [intOf]
    omega
   ·by_cases h2 : mask = 0
    ·subst h2
     go_wp2_with fail
     refine ⟨⟨i + 1, m, cap, a, ks, by omega, by omega, by go_num, rfl, HQ.out.1, HQ.out.2.1.more (by omega), HQ.out.2.2⟩, ?_⟩
     simp [intOf]
     omega
    ·go_wp2_with (at_builtin; refine wpList_append_lies _ rfl _ _ _ rfl w.heap.size 3 i3 (.int .i64 0) 1 8 Tryz.underlying94 hi3 hz3 hs3 hb3 rfl (by decide) _ m _ rfl (by exact HRow.out) ⟨wr.heap.size, 0, none⟩ 1 1 [.int .i64 (i : Int)] rfl rfl (by exact newsI1 wr _ _) (by intro u hu; simp at hu; subst hu; rfl) (by decide) (by unfold maxLen; omega) (by omega) (by simp; omega) (wr.heap.size + 1) (by simp) ?_; intro g4 cap4 w6 ho4 hg4 _ _; have FA : Hid (w6.ownsRow w.heap.size 3 1 (.slice (some ⟨g4, 0, none⟩) (m + 1) cap4) (m + 1) ((ks ++ [(i : Int)]).map (Value.int .i64)) ∧ GoodK (i + 1) (ks ++ [(i : Int)]) ∧ Below w.heap.size w w6) := HFA.out g4 cap4 w6 ho4 hg4; clear ho4 hg4)
     ·refine ⟨⟨i + 1, m + 1, cap4, some ⟨g4, 0, none⟩, ks ++ [(i : Int)], by omega, by omega, by go_num, rfl, FA.out.1, FA.out.2.1, FA.out.2.2⟩, ?_⟩
      simp [intOf]
      omega
     ·refine ⟨⟨i + 1, m, cap, a, ks, by omega, by omega, by go_num, rfl, HQ.out.1, HQ.out.2.1.more (by omega), HQ.out.2.2⟩, ?_⟩
      simp [intOf]
      omega
  ·have hi' : ¬ (i : Int) < (n : Int) := by omega
   have hie : i = n := by omega
   subst hie
   have FIN : Hid (PO (.returned (.slice a m cap)) wr) := by rw [HPO.out]; exact ⟨a, m, cap, ks, rfl, hrow, hmi, hgk, hbt⟩
   clear hrow hgk hbt
   go_wp2
   exact FIN.out
end Go.Proofs.YtldlejpacgphmaaGreat
namespace Go.Proofs.YtldlejpacgphmaaGreat
open Go.RowKit
set_option maxRecDepth 100000 in
set_option maxHeartbeats 4000000 in
theorem left_any {Z : Nat → Prop} {w : World} {wb p c : Nat} {jv : Value} {g : Nat} {rm lasted : Int} {off trying : Bool} {tried tl td : Value} {hb hc nb fr bl : Nat} {ta : Option Addr} {tn tc : Nat} {d : Pd} (hW : Wb w wb p c jv g rm lasted off trying tried tl td) (hL : Lg w g (some ⟨hb, 0, none⟩) nb hc fr bl ta tn tc) (hD : Dk Z w p d.img d.puts d.fu d.off nb) (hf : d.Fits nb) (hpl : d.puts.length ≤ 1073741824) (mask : Int) :
  Calls Tryz.prog 12 #[.pointer (some ⟨wb, 0, none⟩), .int .u64 mask] w fun e w' => ∃ ib ic I, e = .returned (.tuple #[.slice (some ⟨ib, 0, none⟩) (512 * nb) ic, .bool true]) ∧ w.heap.size ≤ ib ∧ Own w' ib (512 * nb) ic I ∧ Pl.isB I ∧ (∀ x, d.poss x (imgB I x)) ∧ (d.puts = [] → I = d.img) ∧ Below w.heap.size w w' := by
 obtain ⟨L, hLe⟩ : ∃ L, L = 512 * nb := ⟨_, rfl⟩
 obtain ⟨PO, hPO⟩ : ∃ PO : Ending → World → Prop, PO = fun e w' => ∃ ib ic I, e = .returned (.tuple #[.slice (some ⟨ib, 0, none⟩) (512 * nb) ic, .bool true]) ∧ w.heap.size ≤ ib ∧ Own w' ib (512 * nb) ic I ∧ Pl.isB I ∧ (∀ x, d.poss x (imgB I x)) ∧ (d.puts = [] → I = d.img) ∧ Below w.heap.size w w' := ⟨_, rfl⟩
 rw [← hPO]
 have k0 : w.cell? ⟨wb, 0, none⟩ = some (.pointer (some ⟨p, 0, none⟩)) := hW.cell 0
 have k3 : w.cell? ⟨wb, 3, none⟩ = some (.pointer (some ⟨g, 0, none⟩)) := hW.cell 3
 have c0 := hL.c0
 rw [← hLe] at c0
 have hwl := hW.lt
 have hgl := hL.lt
 have HP := hid (Pending_any hD hpl)
 obtain ⟨n, hn⟩ : ∃ n, n = d.puts.length := ⟨_, rfl⟩
 have hlen : d.img.length = L := by rw [hf.1, hLe]
 have HCr0 : Hid (∀ (w1 w2 : World) (a : Option Addr) (m cp : Nat) (ks : List Int), Below w.heap.size w w1 → Below w1.heap.size w1 w2 → w2.ownsRow w1.heap.size 3 1 (.slice a m cp) m (ks.map (Value.int .i64)) → m ≤ n → GoodK n ks → Calls Tryz.prog 52 #[.pointer (some ⟨p, 0, none⟩), .slice a m cp] w2 fun e w3 => ∃ ib ic, e = .returned (.tuple #[.slice (some ⟨ib, 0, none⟩) L ic, .int .i64 0]) ∧ w3.cell? ⟨wb, 0, none⟩ = some (.pointer (some ⟨p, 0, none⟩)) ∧ (w3.cell? ⟨wb, 3, none⟩ = some (.pointer (some ⟨g, 0, none⟩)) ∧ w3.cell? ⟨g, 0, none⟩ = some (.slice (some ⟨hb, 0, none⟩) L hc) ∧ ∀ w4, w4.heap = w3.heap → Below w3.heap.size w3 w4 → PO (.returned (.tuple #[.slice (some ⟨ib, 0, none⟩) L ic, .bool true])) w4)) := fun w1 w2 a m cp ks b1 b2 q1 q2 q3 => by
  have s1 := b1.size
  have bb : Below w.heap.size w w2 := b1.trans (b2.mono s1)
  have hks : ∀ k ∈ ks, 0 ≤ k ∧ k < (d.puts.length : Int) := fun k hk => by
   obtain ⟨i, hi⟩ := List.mem_iff_getElem?.1 hk
   have hil := (List.getElem?_eq_some_iff.1 hi).1
   have e : ks.getD i 0 = k := by rw [List.getD_eq_getElem?_getD, hi]; rfl
   have h1 := good_lo q3 i hil
   have h2 := (q3 i hil).2
   rw [e] at h1 h2
   rw [← hn]
   exact ⟨h1, h2⟩
  have hpz : placesC d.puts.length ks = 0 := by unfold placesC; rw [← hn, if_pos q3]
  refine Calls.mono (Crash_any (hD.keep (fun k _ hk => bb.block k hk)) hpl a m cp ks (by omega) (rdi_of_owns q1)) ?_
  rintro e w3 ⟨b3, hcase⟩
  rcases hcase with ⟨h1, _⟩ | ⟨_, ib, ic, rfl, hib, hown, hisb⟩
  ·exact absurd hpz h1
  ·have s2 := bb.size
   have b4 : Below w.heap.size w w3 := bb.trans (b3.mono s2)
   refine ⟨ib, ic, by rw [hlen], (b4.cell (p := ⟨wb, 0, none⟩) hwl).trans k0, (b4.cell (p := ⟨wb, 3, none⟩) hwl).trans k3, (b4.cell (p := ⟨g, 0, none⟩) hgl).trans c0, fun w4 he b5 => ?_⟩
   rw [hPO]
   refine ⟨ib, ic, crashZ d.img d.puts ks, by rw [← hLe], by omega, ?_, hisb, fun x => (Pd.poss_crash hf ks hks x).1, fun hp0 => ?_, b4.trans (b5.mono b4.size)⟩
   ·rw [← hf.1]
    exact hown.keep (by rw [he])
   ·have hk0 : ks = [] := by
     rcases ks with _ | ⟨k, ks⟩
     ·rfl
     ·have := hks k (by simp)
      rw [hp0] at this
      simp at this
      omega
    rw [hk0]
    rfl
 have HK0 := hid (fun w1 => kept_any mask n (by omega) w1)
 have HNm0 := hid (num_any 0)
 rw [← hn] at HP
 have hn2 : n ≤ 1073741824 := by omega
 clear hW hL hD hf hpl hn hlen hPO hLe
 go_enter Tryz.func12, Tryz.ntmps12
 go_wp2_with fail
 refine Calls.mono HP.out ?_
 rintro e w1 ⟨g1, rfl, hg1, _, b1⟩
 have HNm1 := hid (HNm0.out w1)
 have m0 := (b1.cell (p := ⟨wb, 0, none⟩) hwl).trans k0
 have hs1 := b1.size
 have hwl1 : wb < w1.heap.size := by omega
 have HK := hid (HK0.out w1.drew)
 have HCr : Hid (∀ (w2 : World) (a : Option Addr) (m cp : Nat) (ks : List Int), Below w1.heap.size w1.drew w2 → w2.ownsRow w1.heap.size 3 1 (.slice a m cp) m (ks.map (Value.int .i64)) → m ≤ n → GoodK n ks → _) := fun w2 a m cp ks b2 => HCr0.out w1.drew w2 a m cp ks b1.drew b2
 clear HP HK0 HCr0 b1 k0 k3 c0
 go_wp2_with fail
 refine Calls.mono HNm1.out ?_
 rintro e w9 ⟨rfl, hw9⟩
 rw [hw9]
 clear hw9 HNm1
 go_wp2_with fail
 refine wp_region_held_drew (S := fun w' => w'.cell? ⟨wb, 0, none⟩ = some (.pointer (some ⟨p, 0, none⟩))) (by kernel_rfl) m0 (fun hSS => ?_)
 apply tk 0 (some 22) (.move (.tmp 0)) 27 none rfl (by kernel_rfl) (fun _ _ _ h => h) (by rfl) hSS
 ·(intro a h; (try dsimp only at h); (try go_split_ands); go_simp; try with_reducible rfl)
 apply tk 1 (some 23) (.nilCheck (.tmp 22)) 0 none rfl (by kernel_rfl) (fun _ _ _ h => h) (by rfl) hSS
 ·(intro a h; (try dsimp only at h); (try go_split_ands); go_simp; try with_reducible rfl)
 apply tk 2 (some 24) (.fieldAddr 45 (.tmp 23) 0) 0 none rfl (by kernel_rfl) (fun _ _ _ h => h) (by rfl) hSS
 ·(intro a h; (try dsimp only at h); (try go_split_ands); go_simp; try with_reducible rfl)
 apply tk 3 (some 25) (.load 37 (.tmp 24)) 37 none rfl (by kernel_rfl) (fun _ _ _ h => h) (by rfl) hSS
 ·(intro a h; (try dsimp only at h); (try go_split_ands); go_simp; try with_reducible rfl)
 try simp only [Act.put, List.setIfInBounds_toArray, List.set_cons_zero, List.set_cons_succ]
 apply tk 4 (some 26) (.move (.tmp 1)) 31 none rfl (by kernel_rfl) (fun _ _ _ h => h) (by rfl) hSS
 ·(intro a h; (try dsimp only at h); (try go_split_ands); go_simp; try with_reducible rfl)
 apply tk 5 (some 27) (.move (.tmp 6)) 94 none rfl (by kernel_rfl) (fun _ _ _ h => h) (by rfl) hSS
 ·(intro a h; (try dsimp only at h); (try go_split_ands); go_simp; try with_reducible rfl)
 apply tk 6 (some 28) (.call { callee := .builtin .len, args := #[.tmp 27], argTypes := #[94] }) 3 none rfl (by kernel_rfl) (fun _ _ _ h => h) (by rfl) hSS
 ·(intro a h; (try dsimp only at h); (try go_split_ands); go_simp; try with_reducible rfl)
 try simp only [Act.put, List.setIfInBounds_toArray, List.set_cons_zero, List.set_cons_succ]
 refine wpAnyH_ready (rs := [7]) (by kernel_rfl) (by simp) (AllReadyH.cons (o := ({ dst := some 29, op := Op.call { callee := Callee.value (Operand.func 53), args := #[Operand.tmp 26, Operand.tmp 28], argTypes := #[31, 3] }, type := 94, pos := _, after := _, guard := none } : Oper)) rfl (fun K9 hK9 => ?_) AllReadyH.nil)
 go_simp
 go_at_call 53
 refine Calls.mono HK.out ?_
 rintro e w2 ⟨a2, m2, cp2, ks, rfl, q1, q2, q3, b2⟩
 have HC2 := hid (HCr.out w2 a2 m2 cp2 ks b2 q1 q2 q3)
 have n0 := (b2.cell (p := ⟨wb, 0, none⟩) hwl1).trans m0
 clear HK HCr q1 q2 q3 b2
 refine hK9.out _ _ n0 (fun hSS => ?_)
 clear hK9 K9
 try simp only [Act.put, List.setIfInBounds_toArray, List.set_cons_zero, List.set_cons_succ]
 refine wpAnyH_ready (rs := [8]) (by kernel_rfl) (by simp) (AllReadyH.cons (o := ({ dst := some 30, op := Op.call { callee := Callee.value (Operand.func 52), args := #[Operand.tmp 25, Operand.tmp 29], argTypes := #[37, 94] }, type := 72, pos := _, after := _, guard := none } : Oper)) rfl (fun K9 hK9 => ?_) AllReadyH.nil)
 go_simp
 go_at_call 52
 refine Calls.mono HC2.out ?_
 rintro e w3 ⟨ib, ic, rfl, r0, r1⟩
 have HR3 := hid r1
 clear r1 HC2
 refine hK9.out _ _ r0 (fun hSS => ?_)
 clear hK9 K9
 try simp only [Act.put, List.setIfInBounds_toArray, List.set_cons_zero, List.set_cons_succ]
 apply tk 9 (some 21) (.move (.tmp 30)) 72 none rfl (by kernel_rfl) (fun _ _ _ h => h) (by rfl) hSS
 ·(intro a h; (try dsimp only at h); (try go_split_ands); go_simp; try with_reducible rfl)
 apply tk 10 (some 31) (.extract (.tmp 21) 0) 22 none rfl (by kernel_rfl) (fun _ _ _ h => h) (by rfl) hSS
 ·(intro a h; (try dsimp only at h); (try go_split_ands); go_simp; try with_reducible rfl)
 try simp only [Act.put, List.setIfInBounds_toArray, List.set_cons_zero, List.set_cons_succ]
 apply tk 11 (some 32) (.extract (.tmp 21) 1) 55 none rfl (by kernel_rfl) (fun _ _ _ h => h) (by rfl) hSS
 ·(intro a h; (try dsimp only at h); (try go_split_ands); go_simp; try with_reducible rfl)
 apply tk 12 (some 8) (.assign (.tmp 31)) 22 none rfl (by kernel_rfl) (fun _ _ _ h => h) (by rfl) hSS
 ·(intro a h; (try dsimp only at h); (try go_split_ands); go_simp; try with_reducible rfl)
 apply tk 13 (some 9) (.assign (.tmp 32)) 55 none rfl (by kernel_rfl) (fun _ _ _ h => h) (by rfl) hSS
 ·(intro a h; (try dsimp only at h); (try go_split_ands); go_simp; try with_reducible rfl)
 try simp only [Act.put, List.setIfInBounds_toArray, List.set_cons_zero, List.set_cons_succ]
 refine wpAnyH_done (by kernel_rfl) ?_ _
 obtain ⟨s3, s0, HE⟩ := HR3.out
 have HEh := hid HE
 have HNm := hid (HNm0.out w3.drew)
 have FIN : Hid (PO (.returned (.tuple #[.slice (some ⟨ib, 0, none⟩) L ic, .bool true])) w3.drew) := HE w3.drew rfl (Below.refl _ _).drew
 clear HE HR3 r0 n0 m0 hSS HNm0 HEh
 go_wp2_with fail
 refine wp_region_held_drew (S := fun w' => w'.cell? ⟨wb, 3, none⟩ = some (.pointer (some ⟨g, 0, none⟩)) ∧ w'.cell? ⟨g, 0, none⟩ = some (.slice (some ⟨hb, 0, none⟩) L hc)) (by kernel_rfl) ⟨s3, s0⟩ (fun hSS => ?_)
 apply tk 0 (some 33) (.move (.tmp 8)) 22 none rfl (by kernel_rfl) (fun _ _ _ h => h) (by rfl) hSS
 ·(intro a h; (try dsimp only at h); (try go_split_ands); go_simp; try with_reducible rfl)
 apply tk 1 (some 34) (.move (.tmp 9)) 55 none rfl (by kernel_rfl) (fun _ _ _ h => h) (by rfl) hSS
 ·(intro a h; (try dsimp only at h); (try go_split_ands); go_simp; try with_reducible rfl)
 try simp only [Act.put, List.setIfInBounds_toArray, List.set_cons_zero, List.set_cons_succ]
 refine wpAnyH_ready (rs := [2]) (by kernel_rfl) (by simp) (AllReadyH.cons (o := ({ dst := some 35, op := Op.call { callee := Callee.value (Operand.func 20), args := #[Operand.tmp 34], argTypes := #[55] }, type := 3, pos := _, after := _, guard := none } : Oper)) rfl (fun K9 hK9 => ?_) AllReadyH.nil)
 go_simp
 go_at_call 20
 refine Calls.mono HNm.out ?_
 rintro e w9 ⟨rfl, hw9⟩
 rw [hw9]
 clear hw9 HNm
 refine hK9.out _ _ hSS (fun hSS => ?_)
 clear hK9 K9
 try simp only [Act.put, List.setIfInBounds_toArray, List.set_cons_zero, List.set_cons_succ]
 apply tk 3 (some 36) (.binOp .eql 3 (.tmp 35) (.const (.int .i64 0)) 3) 4 none rfl (by kernel_rfl) (fun _ _ _ h => h) (by rfl) hSS
 ·(intro a h; (try dsimp only at h); (try go_split_ands); go_simp; try with_reducible rfl)
 try simp only [Act.put, List.setIfInBounds_toArray, List.set_cons_zero, List.set_cons_succ]
 apply tk 4 (some 37) (.move (.tmp 36)) 4 none rfl (by kernel_rfl) (fun _ _ _ h => h) (by rfl) hSS
 ·(intro a h; (try dsimp only at h); (try go_split_ands); go_simp; try with_reducible rfl)
 apply tk 5 (some 38) (.move (.tmp 8)) 22 (some (4, true)) rfl (by kernel_rfl) (fun _ _ _ h => h) (by rfl) hSS
 ·(intro a h; (try dsimp only at h); (try go_split_ands); go_simp; try with_reducible rfl)
 apply tk 6 (some 39) (.call { callee := .builtin .len, args := #[.tmp 38], argTypes := #[22] }) 3 (some (4, true)) rfl (by kernel_rfl) (fun _ _ _ h => h) (by rfl) hSS
 ·(intro a h; (try dsimp only at h); (try go_split_ands); go_simp; try with_reducible rfl)
 apply tk 7 (some 40) (.move (.tmp 0)) 27 (some (4, true)) rfl (by kernel_rfl) (fun _ _ _ h => h) (by rfl) hSS
 ·(intro a h; (try dsimp only at h); (try go_split_ands); go_simp; try with_reducible rfl)
 try simp only [Act.put, List.setIfInBounds_toArray, List.set_cons_zero, List.set_cons_succ]
 apply tk 8 (some 41) (.nilCheck (.tmp 40)) 0 (some (4, true)) rfl (by kernel_rfl) (fun _ _ _ h => h) (by rfl) hSS
 ·(intro a h; (try dsimp only at h); (try go_split_ands); go_simp; try with_reducible rfl)
 apply tk 9 (some 42) (.fieldAddr 45 (.tmp 41) 3) 0 (some (4, true)) rfl (by kernel_rfl) (fun _ _ _ h => h) (by rfl) hSS
 ·(intro a h; (try dsimp only at h); (try go_split_ands); go_simp; try with_reducible rfl)
 apply tk 10 (some 43) (.load 40 (.tmp 42)) 40 (some (4, true)) rfl (by kernel_rfl) (fun _ _ _ h => h) (by rfl) hSS
 ·(intro a h; (try dsimp only at h); (try go_split_ands); go_simp; try with_reducible rfl)
 apply tk 11 (some 44) (.nilCheck (.tmp 43)) 0 (some (4, true)) rfl (by kernel_rfl) (fun _ _ _ h => h) (by rfl) hSS
 ·(intro a h; (try dsimp only at h); (try go_split_ands); go_simp; try with_reducible rfl)
 try simp only [Act.put, List.setIfInBounds_toArray, List.set_cons_zero, List.set_cons_succ]
 apply tk 12 (some 45) (.fieldAddr 48 (.tmp 44) 0) 0 (some (4, true)) rfl (by kernel_rfl) (fun _ _ _ h => h) (by rfl) hSS
 ·(intro a h; (try dsimp only at h); (try go_split_ands); go_simp; try with_reducible rfl)
 apply tk 13 (some 46) (.load 22 (.tmp 45)) 22 (some (4, true)) rfl (by kernel_rfl) (fun _ _ _ h => h) (by rfl) hSS
 ·(intro a h; (try dsimp only at h); (try go_split_ands); go_simp; try with_reducible rfl)
 apply tk 14 (some 47) (.call { callee := .builtin .len, args := #[.tmp 46], argTypes := #[22] }) 3 (some (4, true)) rfl (by kernel_rfl) (fun _ _ _ h => h) (by rfl) hSS
 ·(intro a h; (try dsimp only at h); (try go_split_ands); go_simp; try with_reducible rfl)
 apply tk 15 (some 48) (.binOp .eql 3 (.tmp 39) (.tmp 47) 3) 4 (some (4, true)) rfl (by kernel_rfl) (fun _ _ _ h => h) (by rfl) hSS
 ·(intro a h; (try dsimp only at h); (try go_split_ands); go_simp; try with_reducible rfl)
 try simp only [Act.put, List.setIfInBounds_toArray, List.set_cons_zero, List.set_cons_succ]
 apply tk 16 (some 49) (.pick (.tmp 37) (.tmp 48) (.const (.bool false))) 4 none rfl (by kernel_rfl) (fun _ _ _ h => h) (by rfl) hSS
 ·(intro a h; (try dsimp only at h); (try go_split_ands); go_simp; try with_reducible rfl)
 apply tk 17 (some 4) (.assign (.tmp 33)) 22 none rfl (by kernel_rfl) (fun _ _ _ h => h) (by rfl) hSS
 ·(intro a h; (try dsimp only at h); (try go_split_ands); go_simp; try with_reducible rfl)
 apply tk 18 (some 5) (.assign (.tmp 49)) 4 none rfl (by kernel_rfl) (fun _ _ _ h => h) (by rfl) hSS
 ·(intro a h; (try dsimp only at h); (try go_split_ands); go_simp; try with_reducible rfl)
 try simp only [Act.put, List.setIfInBounds_toArray, List.set_cons_zero, List.set_cons_succ]
 refine wpAnyH_done (by kernel_rfl) ?_ _
 go_wp2
 exact FIN.out
end Go.Proofs.YtldlejpacgphmaaGreat
