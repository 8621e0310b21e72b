import Derived.Test.YtldlejpacgphmaaGreatG06
import Derived.Test.YtldlejpacgphmaaGreatG03
import Derived.Deep.RegionHeld3
namespace Go.Proofs.YtldlejpacgphmaaGreat
open Go.RowKit Go.ChangeMaps
set_option maxRecDepth 100000 in
set_option maxHeartbeats 4000000 in
theorem CRead_miss2 {X Y : Nat → Prop} {w : World} {c p room : Nat} {hi mi : Int} {l : List (Int × List Int)} {img : List Int} {puts : List (Nat × List Int)} {fu : Int} {off : Bool} {nb : Nat} (h : CD X Y w c p room hi mi l img puts fu off nb) (hl : puts.length ≤ 1073741824) {x : Int} (hwf : (Lit.int .i64 x).wf = true) (hx : ∀ q ∈ l, q.1 ≠ x) (hmi : 0 ≤ mi ∧ mi < 4611686018427387904) (hz : (readR img puts off nb x).1 = 0) :
  Calls Tryz.prog 28 #[.pointer (some ⟨c, 0, none⟩), .int .i64 x] w fun q w' => ∃ g cap, q = .returned (.tuple #[.slice (some ⟨g, 0, none⟩) 512 cap, .int .i64 0]) ∧ w.heap.size ≤ g ∧ Own w' g 512 cap (readR img puts off nb x).2 ∧ (∃ X' Y', CD X' Y' w' c p room hi (mi + 1) (holdL room l x (readR img puts off nb x).2) img puts fu off nb ∧ Grown X Y X' Y' w ∧ ¬ X' g ∧ ¬ Y' g) ∧ But (fun k => X k ∨ Y k) w w' := by
 have hrr : (readR img puts off nb x).2.length = 512 ∧ Pl.isB (readR img puts off nb x).2 := by
  unfold readR at hz ⊢
  split at hz
  ·simp at hz
  ·split at hz
   ·simp at hz
   ·rw [if_neg ‹_›, if_neg ‹_›]
    exact h.dk.seen (by omega)
 have HR := hid (Read_any h.dk x hl)
 rw [hz] at HR
 generalize (readR img puts off nb x).2 = zs at *
 obtain ⟨hlen, hisb⟩ := hrr
 rw [hlen] at HR
 obtain ⟨r, mp, n, es, f, Z, h1, hlv, _⟩ := h.ca
 obtain ⟨D, hm, hBM⟩ := h1.map
 have hkey : keyOf Tryz.prog 3 (.int .i64 x) = some (.int .i64 x) := Maps.keyOf_int_mk Tryz.underlying3 hwf
 have hhas := hBM.miss x (fun e he => hx ((f e).at_, Z e) (by rw [hlv]; unfold view; exact List.mem_map.2 ⟨e, he, rfl⟩))
 obtain ⟨x0, x1, x2, x3, x4, x5⟩ := h1.blk.cells
 have hcl := h1.blk.lt
 have hYc := h1.xc
 have H := hid h
 clear h hBM h1 hx hz hlv
 go_enter Tryz.func28, Tryz.ntmps28
 go_wp2_with (at_lookup; refine wpList_lookup_own_ok _ rfl _ _ 103 rfl 3 102 law3 Tryz.underlying103 ptrElem (zero45 _) .nil [] rfl mp n D rfl hm _ _ rfl hkey ?_; intro v ps hv; clear hv; rw [hhas])
 refine Calls.mono HR.out ?_
 rintro q w1 ⟨al, cp, rfl, hal, b1⟩
 obtain ⟨g, rfl, hg, o1⟩ : ∃ g, al = some ⟨g, 0, none⟩ ∧ w.heap.size ≤ g ∧ Own w1 g 512 cp zs := by
  rcases hal with ⟨_, _, q⟩ | q
  ·rw [q] at hlen; simp at hlen
  ·exact q
 have s1 := b1.size
 have y5 : w1.cell? ⟨c, 5, none⟩ = some (.int .i64 mi) := (World.cell?_of_block (w := w) (b1.block c hcl)).trans x5
 have ca1 : Cst (fun k => (Y k ∧ k < w.heap.size) ∨ k = g) w1 c p room hi mi l := (H.out.ca.cut.keep (fun k q hk => b1.block k hk)).mono (fun k _ q => .inl q)
 obtain ⟨v2, v3, cg1, _⟩ := ca1.cg
 have f5 := cg1.frozen 5
 obtain ⟨w2, hw2⟩ : ∃ w2, w2 = w1.setCell ⟨c, 5, none⟩ (.int .i64 (mi + 1)) := ⟨_, rfl⟩
 have ca2 : Cst (fun k => (Y k ∧ k < w.heap.size) ∨ k = g) w2 c p room hi (mi + 1) l := by rw [hw2]; exact ca1.addMiss (mi + 1)
 have b2 : But (fun k => k = c) w1 w2 := by rw [hw2]; exact (But.refl (fun y => y = c) w1).setCell (p := ⟨c, 5, none⟩) (show (fun y => y = c) c from rfl) _
 have z2 : w2.heap.size = w1.heap.size := by rw [hw2]; simp [World.setCell]
 have HH := hid (hold_any ca2 (o1.keep (b2.block g o1.lt (by omega))) hisb (.inr rfl) hwf)
 have K := hid (And.intro b1 b2)
 clear ca1 ca2 b1 b2 o1 cg1 hal HR x0 x1 x2 x3 x4 x5
 go_wp2_with fail
 rw [← hw2]
 refine Calls.mono HH.out ?_
 rintro q w3 ⟨rfl, ca3, b3, o3⟩
 have HC := hid (Clone_any ⟨g, 0, none⟩ 512 cp zs w3 (by omega) (o3.rd hisb))
 have K3 := hid (And.intro ca3 b3)
 clear ca3 b3 o3 HH
 go_wp2_with fail
 refine Calls.mono HC.out ?_
 rintro q w4 ⟨g', cap', rfl, g4, o4, b4⟩
 have FIN : Hid (w.heap.size ≤ g' ∧ Own w4 g' 512 cap' zs ∧ (∃ X' Y', CD X' Y' w4 c p room hi (mi + 1) (holdL room l x zs) img puts fu off nb ∧ Grown X Y X' Y' w ∧ ¬ X' g' ∧ ¬ Y' g') ∧ But (fun k => X k ∨ Y k) w w4) := by
  have s3 := K3.out.2.size
  have hdj := H.out.dj
  refine ⟨by omega, o4, ⟨fun k => X k ∧ k < w.heap.size, _, ⟨K3.out.1.cut.keep (fun k _ hk => b4.block k hk), ((((H.out.dk.cut.below K.out.1).but K.out.2 (fun k q q' => hdj c hYc (by rw [← q']; exact q.1))).but K3.out.2 (fun k q q' => ?_)).below b4), fun k q q' => ?_⟩, fun k hk => ⟨fun q => q.1, fun q => ?_⟩, fun q => by have := q.2; omega, fun q => by have := q.2; omega⟩, ?_⟩
  ·rcases q' with ⟨q1, q2⟩ | q1
   ·exact hdj k q1 q.1
   ·omega
  ·rcases q.1 with (⟨q1, q2⟩ | q1) | q1
   ·exact hdj k q1 q'.1
   ·omega
   ·omega
  ·rcases q.1 with (⟨q1, q2⟩ | q1) | q1
   ·exact q1
   ·omega
   ·omega
  ·have e1 : But (fun k => X k ∨ Y k) w w2 := (But.of_below K.out.1).comp K.out.2 (fun k _ q => .inr (by rw [q]; exact hYc))
   exact (e1.comp K3.out.2 (fun k hk q => by
    rcases q with ⟨q1, q2⟩ | q1
    ·exact .inr q1
    ·omega)).trans (But.of_below b4)
 clear o4 b4 HC K K3 H
 go_wp2
 go_ret2
 exact ⟨g', cap', rfl, FIN.out.1, FIN.out.2.1, FIN.out.2.2.1, FIN.out.2.2.2⟩
set_option maxHeartbeats 1000000 in
theorem CRead_full2 {X Y : Nat → Prop} {w : World} {c p room : Nat} {hi mi : Int} {l : List (Int × List Int)} {img : List Int} {puts : List (Nat × List Int)} {fu : Int} {off : Bool} {nb : Nat} (h : CD X Y w c p room hi mi l img puts fu off nb) (hYc : ∀ k, Y k → k < w.heap.size) (hl : puts.length ≤ 1073741824) {x : Int} (hwf : (Lit.int .i64 x).wf = true) (hhi : 0 ≤ hi ∧ hi < 4611686018427387904) (hmi : 0 ≤ mi ∧ mi < 4611686018427387904) :
  Calls Tryz.prog 28 #[.pointer (some ⟨c, 0, none⟩), .int .i64 x] w fun q w' => ∃ al cp, q = .returned (.tuple #[.slice al (readS l img puts off nb x).2.length cp, .int .i64 (readS l img puts off nb x).1]) ∧
   ((al = none ∧ cp = 0 ∧ (readS l img puts off nb x).2 = []) ∨ ∃ g, al = some ⟨g, 0, none⟩ ∧ w.heap.size ≤ g ∧ Own w' g (readS l img puts off nb x).2.length cp (readS l img puts off nb x).2) ∧
   (∃ X' Y', CD X' Y' w' c p room (hi + hitN l (readS l img puts off nb x).1 x) (mi + missN l (readS l img puts off nb x).1 x) (readL room l (readS l img puts off nb x) x) img puts fu off nb ∧ Grown X Y X' Y' w ∧ ∀ g, al = some ⟨g, 0, none⟩ → ¬ X' g ∧ ¬ Y' g) ∧ But (fun k => X k ∨ Y k) w w' ∧ Pl.isB (readS l img puts off nb x).2 := by
 by_cases hin : inL l x
 ·obtain ⟨q0, hq0, hqx⟩ := List.mem_map.1 hin
  obtain ⟨r, mp, n, es, f, Z, h1, rfl, h3, h4, h5, h6⟩ := h.ca
  unfold view at hq0
  obtain ⟨e, he, rfl⟩ := List.mem_map.1 hq0
  simp only at hqx
  subst hqx
  cases off with
  | true =>
   have hrr : readS (view es f Z) img puts true nb (f e).at_ = (24, []) := rfl
   rw [hrr]
   refine Calls.mono (CRead_off h1 he h.dk hl hwf) ?_
   rintro q w' ⟨rfl, b⟩
   refine ⟨none, 0, rfl, .inl ⟨rfl, rfl, rfl⟩, ?_, But.of_below b, Pl.isB_nil⟩
   obtain ⟨X', Y', t1, t2⟩ := h.below b
   refine ⟨X', Y', ?_, t2, fun g e => by cases e⟩
   simpa [hitN, missN, readL] using t1
  | false =>
   obtain ⟨A, B, rfl⟩ := List.append_of_mem he
   obtain ⟨D, hm, hD⟩ := h1.map
   have hrr : readS (view (A ++ e :: B) f Z) img puts false nb (f e).at_ = (0, Z e) := by
    unfold readS
    rw [if_neg (by simp), heldZ_view hD (List.nodup_cons.1 h1.ring.1).2]
   rw [hrr]
   obtain ⟨g0, c0, _, o0, z0, _⟩ := h1.dat e (by simp)
   have hlen : (Z e).length = 512 := o0.len
   refine Calls.mono (CRead_hit h1 h.dk hhi hwf) ?_
   rintro q w' ⟨g, cap, rfl, q1, q2, ⟨f', q3, q4⟩, b⟩
   refine ⟨some ⟨g, 0, none⟩, cap, by simp only [hlen], .inr ⟨g, rfl, q1, by simp only [hlen]; exact q2⟩, ?_, b.mono (fun k _ q => .inr q), z0⟩
   have e1 : hitN (view (A ++ e :: B) f Z) (0, Z e).1 (f e).at_ = 1 := by unfold hitN; rw [if_pos ⟨rfl, hin⟩]
   have e2 : missN (view (A ++ e :: B) f Z) (0, Z e).1 (f e).at_ = 0 := by unfold missN; rw [if_neg (fun q => q.2 hin)]
   have e3 : readL room (view (A ++ e :: B) f Z) (0, Z e) (f e).at_ = view (A ++ B ++ [e]) f' Z := by
    unfold readL
    rw [if_pos rfl]
    exact (view_move hD (List.nodup_cons.1 h1.ring.1).2 h3 q4 (fun _ _ => rfl)).symm
   rw [e1, e2, e3, Int.add_zero]
   refine ⟨fun k => X k ∧ k < w.heap.size, Y, ⟨⟨r, mp, n, _, f', Z, q3, rfl, by simp at h3 ⊢; omega, h4, h5, fun y hy => by rw [q4]; exact h6 y (by simp at hy ⊢; rcases hy with q | q | q <;> simp [q])⟩, h.dk.cut.but b (fun k q q' => h.dj k q' q.1), fun k q q' => h.dj k q q'.1⟩, fun k hk => ⟨fun q => q.1, fun q => q⟩, fun g' e => by cases e; exact ⟨fun q => by have := q.2; omega, fun q => by have := hYc _ q; omega⟩⟩
 ·have hx : ∀ q ∈ l, q.1 ≠ x := fun q hq e => hin (List.mem_map.2 ⟨q, hq, e⟩)
  have hS : readS l img puts off nb x = readR img puts off nb x := by
   unfold readS
   rw [heldZ_none hin]
   cases off <;> rfl
  rw [hS]
  have hB : Pl.isB (readR img puts off nb x).2 := by
   unfold readR
   split
   ·exact Pl.isB_nil
   ·split
    ·exact Pl.isB_nil
    ·exact (h.dk.seen (by omega)).2
  by_cases hz : (readR img puts off nb x).1 = 0
  ·have hlen : (readR img puts off nb x).2.length = 512 := by
    unfold readR at hz ⊢
    split at hz
    ·simp at hz
    ·split at hz
     ·simp at hz
     ·rw [if_neg ‹_›, if_neg ‹_›]
      exact (h.dk.seen (by omega)).1
   refine Calls.mono (CRead_miss2 h hl hwf hx hmi hz) ?_
   rintro q w' ⟨g, cap, rfl, q1, q2, q3, b⟩
   have e1 : hitN l (readR img puts off nb x).1 x = 0 := by unfold hitN; rw [if_neg (fun q => hin q.2)]
   have e2 : missN l (readR img puts off nb x).1 x = 1 := by unfold missN; rw [if_pos ⟨hz, hin⟩]
   have e3 : readL room l (readR img puts off nb x) x = holdL room l x (readR img puts off nb x).2 := by unfold readL; rw [if_pos hz]
   refine ⟨some ⟨g, 0, none⟩, cap, by rw [hlen, hz], .inr ⟨g, rfl, q1, by rw [hlen]; exact q2⟩, ?_, b, hB⟩
   rw [e1, e2, e3, Int.add_zero]
   obtain ⟨X', Y', t1, t2, t3, t4⟩ := q3
   exact ⟨X', Y', t1, t2, fun g' e => by cases e; exact ⟨t3, t4⟩⟩
  ·have hrr : (readR img puts off nb x).2 = [] := by
    unfold readR at hz ⊢
    split
    ·rfl
    ·split
     ·rfl
     ·rw [if_neg ‹_›, if_neg ‹_›] at hz
      exact absurd rfl hz
   refine Calls.mono (CRead_bad h hl hwf hx hz) ?_
   rintro q w' ⟨rfl, b⟩
   have e1 : hitN l (readR img puts off nb x).1 x = 0 := by unfold hitN; rw [if_neg (fun q => hz q.1)]
   have e2 : missN l (readR img puts off nb x).1 x = 0 := by unfold missN; rw [if_neg (fun q => hz q.1)]
   have e3 : readL room l (readR img puts off nb x) x = l := by unfold readL; rw [if_neg hz]
   refine ⟨none, 0, by rw [hrr]; rfl, .inl ⟨rfl, rfl, hrr⟩, ?_, But.of_below b, hB⟩
   rw [e1, e2, e3, Int.add_zero, Int.add_zero]
   obtain ⟨X', Y', t1, t2⟩ := h.below b
   exact ⟨X', Y', t1, t2, fun g e => by cases e⟩
end Go.Proofs.YtldlejpacgphmaaGreat
namespace Go.Proofs.YtldlejpacgphmaaGreat
open Go.RowKit
theorem arePlaces_any (a : Option Addr) (n c : Nat) (w : World) : Calls Tryz.prog 85 #[.slice a n c] w fun e w' => e = .returned (.func (.func 120) #[] #[.pointer (some ⟨w.heap.size, 0, none⟩)]) ∧ w' = w.alloc (.cells #[.slice a n c] 94) := by
 go_enter Tryz.func85, Tryz.ntmps85
 go_wp2
 go_ret
 exact ⟨rfl, rfl⟩
theorem ask_one {w : World} {p k f : Nat} {cap : Array Value} {code : Int} (hf : f = 120) (H : Calls Tryz.prog f (#[.pointer (some ⟨p, 0, none⟩)] ++ cap) w fun e w' => e = .returned (.int .i64 code) ∧ Below w.heap.size w w') (k0 : w.cell? ⟨k, 0, none⟩ = some (.func (.func f) #[] cap)) :
  Calls Tryz.prog 74 #[.pointer (some ⟨p, 0, none⟩), .slice (some ⟨k, 0, none⟩) 1 1] w fun e w' => e = .returned (.int .i64 code) ∧ Below w.heap.size w w' := by
 subst hf
 have H1 := hid H
 clear H
 go_enter Tryz.func74, Tryz.ntmps74
 by_cases hz : code = 0
 ·subst hz
  go_wp2_with fail
  refine wp_loop_rounds 2 ?_
  rw [rounds_succ]
  go_wp2_with fail
  refine Calls.mono H1.out ?_
  rintro e w1 ⟨rfl, hb⟩
  have Hb := hid hb
  clear hb
  go_wp2_with fail
  rw [rounds_succ]
  go_wp2
  go_ret
  exact ⟨rfl, Hb.out⟩
 ·go_wp2_with fail
  refine wp_loop_rounds 2 ?_
  rw [rounds_succ]
  go_wp2_with fail
  refine Calls.mono H1.out ?_
  rintro e w1 ⟨rfl, hb⟩
  have Hb := hid hb
  clear hb
  go_wp2
  go_ret
  exact ⟨rfl, Hb.out⟩
set_option maxRecDepth 100000 in
set_option maxHeartbeats 1000000 in
theorem arePlaces1_any {w : World} {p c : Nat} {a : Option Addr} {m cap : Nat} {ks : List Int} {lv mv : Value} {aP : Option Addr} {n cP : Nat} {fu : Int} {off : Bool} (hn : n ≤ 1073741824) (hm : m ≤ 1073741824) (hc : w.cell? ⟨c, 0, none⟩ = some (.slice a m cap)) (hR : RdI w.heap.size w a m ks) (hD : Dkb w p lv (.slice aP n cP) mv fu off) :
  Calls Tryz.prog 120 #[.pointer (some ⟨p, 0, none⟩), .pointer (some ⟨c, 0, none⟩)] w fun e w' => e = .returned (.int .i64 (placesC n ks)) ∧ w' = w := by
 have q1 := hD.cell 1
 simp only [List.getElem?_toArray, List.getElem?_cons_succ, List.getElem?_cons_zero] at q1
 obtain ⟨hl, hR⟩ := hR
 have HR := hid hR
 clear hR hD
 go_enter Tryz.func120, Tryz.ntmps120
 go_wp2_with fail
 go_loopw [9, 4] (fun i l wt => ∃ k : Nat, k ≤ m ∧ i = .int .i64 (k : Int) ∧ l = .int .i64 (leastK ks k) ∧ (∀ j, j < k → leastK ks j ≤ ks.getD j 0 ∧ ks.getD j 0 < (n : Int)) ∧ wt = w) (fun i _ _ => m - (intOf i).toNat)
 case atStart => exact ⟨0, Nat.zero_le _, rfl, rfl, fun j hj => by omega, rfl⟩
 case round =>
  obtain ⟨k, hk, rfl, rfl, hg, rfl⟩ := hrel
  by_cases hkm : k < m
  ·obtain ⟨b, o, rfl, hb, hcs⟩ := HR.out.resolve_left (by omega)
   have r0 := hcs k hkm
   have hkm' : (k : Int) < (m : Int) := by omega
   have hg' := hid hg
   clear hcs hg
   by_cases h1 : ks.getD k 0 < leastK ks k
   ·have hno : placesC n ks = 26 := if_neg (fun hG => by have := (hG k (by omega)).1; omega)
    generalize leastK ks k = L at *
    generalize ks.getD k 0 = z at *
    go_wp2
    go_ret
    exact ⟨by first | rfl | (rw [hno]; rfl), rfl⟩
   ·by_cases h2 : (n : Int) ≤ ks.getD k 0
    ·have hno : placesC n ks = 26 := if_neg (fun hG => by have := (hG k (by omega)).2; omega)
     generalize leastK ks k = L at *
     generalize ks.getD k 0 = z at *
     go_wp2
     go_ret
     exact ⟨by first | rfl | (rw [hno]; rfl), rfl⟩
    ·have hnx : leastK ks (k + 1) = ks.getD k 0 + 1 := by unfold leastK; rw [if_neg (by omega), Nat.add_sub_cancel]
     have hgk : leastK ks k ≤ ks.getD k 0 ∧ ks.getD k 0 < (n : Int) := by omega
     have hlo : -9223372036854775808 ≤ ks.getD k 0 := by
      have h3 : ∀ j, j ≤ k → 0 ≤ leastK ks j := by
       intro j
       induction j with
       | zero => intro _; simp [leastK]
       | succ j ih =>
        intro hj
        have := (hg'.out j (by omega)).1
        have := ih (by omega)
        unfold leastK
        rw [if_neg (by omega), Nat.add_sub_cancel]
        omega
      have := h3 k (Nat.le_refl _)
      omega
     have Hgk := hid hgk
     have Hnx := hid hnx
     clear hgk hnx
     generalize hz : ks.getD k 0 = z at *
     generalize hL : leastK ks k = L at *
     go_wp2_with fail
     go_roundw
     case rel =>
      refine ⟨k + 1, by omega, by go_num, by rw [Hnx.out], fun j hj => ?_, by first | rfl | trivial⟩
      by_cases e : j = k
      ·subst e; rw [hz, hL]; exact Hgk.out
      ·exact hg'.out j (by omega)
     case measure => simp [intOf]; omega
  ·obtain rfl : k = m := by omega
   have hyes : placesC n ks = 0 := if_pos (fun i hi => hg i (by omega))
   clear hg
   generalize leastK ks k = L at *
   go_wp2
   go_ret
   exact ⟨by first | rfl | (rw [hyes]; rfl), rfl⟩
set_option maxRecDepth 100000 in
set_option maxHeartbeats 1000000 in
theorem Crash_any {X : Nat → Prop} {w : World} {p : Nat} {img : List Int} {puts : List (Nat × List Int)} {fu : Int} {off : Bool} {nb : Nat} (h : Dk X w p img puts fu off nb) (hl : puts.length ≤ 1073741824) (a : Option Addr) (m cap : Nat) (ks : List Int) (hm : m ≤ 1073741824) (hR : RdI w.heap.size w a m ks) :
  Calls Tryz.prog 52 #[.pointer (some ⟨p, 0, none⟩), .slice a m cap] w fun e w' => Below w.heap.size w w' ∧
   ((placesC puts.length ks ≠ 0 ∧ e = .returned (.tuple #[.slice none 0 0, .int .i64 26])) ∨
   (placesC puts.length ks = 0 ∧ ∃ g c, e = .returned (.tuple #[.slice (some ⟨g, 0, none⟩) img.length c, .int .i64 0]) ∧ w.heap.size ≤ g ∧ Own w' g img.length c (crashZ img puts ks) ∧ Pl.isB (crashZ img puts ks))) := by
 obtain ⟨ds, gL, cL, pv, mp, rfl, h⟩ := h
 obtain ⟨aP, cP, rfl, _⟩ := owns_slice h.row
 have hlen := h.own.len
 have hhi := h.hi
 simp only [List.length_map] at hl ⊢
 have HI := hid (arePlaces_any a m cap w)
 obtain ⟨w2, hw2⟩ : ∃ w2, w2 = (w.alloc (.cells #[.slice a m cap] 94)).alloc (.cells #[.func (.func 120) #[] #[.pointer (some ⟨w.heap.size, 0, none⟩)]] 122) := ⟨_, rfl⟩
 have b2 : Below w.heap.size w w2 := by rw [hw2]; exact ((Below.refl _ _).alloc (Nat.le_refl _) _).alloc (by simp) _
 have z1 : (w.alloc (.cells #[.slice a m cap] 94)).heap.size = w.heap.size + 1 := by simp
 have hc : w2.cell? ⟨w.heap.size, 0, none⟩ = some (.slice a m cap) := by
  rw [hw2, World.cell?_alloc_past _ _ _ (by simp)]
  exact cell_new rfl 0 _ rfl
 have k0 : w2.cell? ⟨w.heap.size + 1, 0, none⟩ = some (.func (.func 120) #[] #[.pointer (some ⟨w.heap.size, 0, none⟩)]) := by rw [hw2]; exact cell_new z1 0 _ rfl
 have hR2 : RdI w2.heap.size w2 a m ks := by
  have := hR.below b2
  obtain ⟨r1, r2⟩ := this
  refine ⟨r1, ?_⟩
  rcases r2 with r2 | ⟨b, o, r3, r4, r5⟩
  ·exact .inl r2
  ·exact .inr ⟨b, o, r3, Nat.lt_of_lt_of_le r4 b2.size, r5⟩
 have h2 := h.keep (w' := w2) (fun x _ hx => b2.block x hx)
 have HT : Calls Tryz.prog 120 (#[.pointer (some ⟨p, 0, none⟩)] ++ #[.pointer (some ⟨w.heap.size, 0, none⟩)]) w2 fun e w' => e = .returned (.int .i64 (placesC ds.length ks)) ∧ Below w2.heap.size w2 w' := (arePlaces1_any hl hm hc hR2 h2.blk).mono (fun e w' ⟨h1, h2⟩ => ⟨h1, h2 ▸ Below.refl _ _⟩)
 have HA := hid (ask_one (f := 120) (cap := #[.pointer (some ⟨w.heap.size, 0, none⟩)]) (k := w.heap.size + 1) rfl HT k0)
 have H2 := hid h2
 have B2 := hid b2
 have HR := hid hR
 clear k0 hc b2 HT h h2 hR2 hR z1
 go_enter Tryz.func52, Tryz.ntmps52
 go_wp2_with fail
 refine Calls.mono HI.out ?_
 rintro e w1 ⟨rfl, rfl⟩
 go_wp2_with fail
 rw [← hw2]
 refine Calls.mono HA.out ?_
 rintro e w3 ⟨rfl, hb3⟩
 have B3 := hid (B2.out.trans (hb3.mono B2.out.size))
 have h3 := H2.out.keep (w' := w3) (fun x _ hx => hb3.block x hx)
 have H3 := hid h3
 have q0 := h3.blk.cell 0
 simp only [List.getElem?_toArray, List.getElem?_cons_zero] at q0
 have HCl := hid (Clone_any ⟨gL, 0, none⟩ (512 * nb) cL img w3 (by omega) (h3.own.rd h3.isb))
 clear hw2 HA HI hb3 H2 B2 h3
 by_cases hz : placesC ds.length ks = 0
 ·simp only [hz]
  go_wp2_with fail
  refine Calls.mono HCl.out ?_
  rintro e w5 ⟨g, cp, rfl, hg, hO, hb5⟩
  have HO := hid hO
  have Hb5 := hid hb5
  have hgw : w.heap.size ≤ g := Nat.le_trans B3.out.size hg
  have hg3 : w3.heap.size ≤ g := hg
  clear hO hb5 hg HCl q0
  go_wp2_with fail
  go_loopw [25] (fun i wt => ∃ k : Nat, k ≤ m ∧ i = .int .i64 (k : Int) ∧ Own wt g (512 * nb) cp ((ks.take k).foldl (layP (ds.map Pw.put)) img) ∧ Pl.isB ((ks.take k).foldl (layP (ds.map Pw.put)) img) ∧ Below w3.heap.size w3 wt) (fun i _ => m - (intOf i).toNat)
  case atStart => exact ⟨0, Nat.zero_le _, rfl, by simpa using HO.out, by simpa using H3.out.isb, Hb5.out⟩
  case round =>
   clear HO Hb5
   obtain ⟨k, hk, rfl, hO, hIB, hbt⟩ := hrel
   have hkl := HR.out.1
   by_cases hkm : k < m
   ·obtain ⟨b, o, rfl, hb, hcs⟩ := HR.out.2.resolve_left (by omega)
    have hG : GoodK ds.length ks := by
     by_cases hG : GoodK ds.length ks
     ·exact hG
     ·unfold placesC at hz; rw [if_neg hG] at hz; omega
    obtain ⟨j, hj⟩ : ∃ j : Nat, ks.getD k 0 = (j : Int) := ⟨(ks.getD k 0).toNat, by have := good_lo hG k (by omega); omega⟩
    have hjn : j < ds.length := by have := (hG k (by omega)).2; omega
    have hd : ds[j]? = some ds[j] := List.getElem?_eq_getElem hjn
    have h4 := H3.out.keep (w' := wr) (fun x _ hx => hbt.block x hx)
    obtain ⟨gP, rfl, hgP, hpc⟩ := wide_cell h4.row (by omega)
    have r1 := hpc _ _ (pcs_get ds j _ hd).1
    have r2 := hpc _ _ (pcs_get ds j _ hd).2
    have q1 := h4.blk.cell 1
    simp only [List.getElem?_toArray, List.getElem?_cons_succ, List.getElem?_cons_zero] at q1
    have r0 := ((B3.out.trans (hbt.mono B3.out.size)).cell (p := ⟨b, o + k, none⟩) hb).trans (hcs k hkm)
    rw [hj] at r0
    have hdd := h4.dat ds[j] (List.getElem_mem hjn)
    have HL := hid (lay_any hO ds[j].at_ ⟨ds[j].g, 0, none⟩ ds[j].c ds[j].data (hdd.1.rd hdd.2.1) (by have := hdd.2.2.2.2; omega) (by omega))
    have hkm' : (k : Int) < (m : Int) := by omega
    have hjn' : (j : Int) < (ds.length : Int) := by omega
    have hst : (ks.take (k + 1)).foldl (layP (ds.map Pw.put)) img = splice ((ks.take k).foldl (layP (ds.map Pw.put)) img) (ds[j].at_ * 512) ds[j].data := by
     rw [fold_snoc _ _ _ (by omega : k < ks.length)]
     have e : ks[k] = (j : Int) := by rw [← hj]; simp [show k < ks.length by omega]
     rw [e]
     unfold layP
     simp [hjn, Pw.put]
    have HS := hid (And.intro hst (And.intro hIB (And.intro hdd.2.1 hbt)))
    clear hcs hO hIB hbt h4 hpc hdd hst hG hd hj
    go_wp2_with fail
    refine Calls.mono HL.out ?_
    rintro e w6 ⟨rfl, hO6, hB6⟩
    have HO6 := hid hO6
    have HB6 := hid hB6
    clear hO6 hB6 HL r0 r1 r2 q1
    go_wp2_with fail
    go_roundw
    case rel =>
     refine ⟨k + 1, by omega, by go_num, by rw [HS.out.1]; exact HO6.out, by rw [HS.out.1]; exact isB_splice HS.out.2.1 HS.out.2.2.1 _, HS.out.2.2.2.trans (HB6.out.below HS.out.2.2.2.size (fun x hx e => by omega))⟩
    case measure => simp [intOf]; omega
   ·obtain rfl : k = m := by omega
    have HO := hid hO
    have Hbt := hid hbt
    have HIB := hid hIB
    clear hO hbt hIB
    go_wp2
    go_ret2
    have hfull : (ks.take k).foldl (layP (ds.map Pw.put)) img = crashZ img (ds.map Pw.put) ks := by rw [← hkl, List.take_length]; rfl
    have hIB := HIB.out
    have hO := HO.out
    rw [hfull] at hIB hO
    refine ⟨B3.out.trans (Hbt.out.mono B3.out.size), ?_⟩
    rw [hlen]
    first
     | exact .inr ⟨rfl, g, cp, rfl, hgw, hO, hIB⟩
     | exact .inr ⟨by assumption, g, cp, rfl, hgw, hO, hIB⟩
     | exact ⟨g, cp, rfl, hgw, hO, hIB⟩
 ·have hz26 : placesC ds.length ks = 26 := by
   unfold placesC at hz ⊢
   split at hz
   ·exact absurd rfl hz
   ·rename_i h; rw [if_neg h]
  go_wp2
  go_ret2
  rw [hz26]
  exact ⟨B3.out, .inl ⟨by omega, rfl⟩⟩
theorem Blocks_any {X : Nat → Prop} {w : World} {p : Nat} {img : List Int} {puts : List (Nat × List Int)} {fu : Int} {off : Bool} {nb : Nat} (h : Dk X w p img puts fu off nb) :
  Calls Tryz.prog 118 #[.pointer (some ⟨p, 0, none⟩)] w fun e w' => e = .returned (.tuple #[.int .i64 (nb : Int), .int .i64 0]) ∧ w' = w := by
 obtain ⟨ds, gL, cL, pv, mp, rfl, h⟩ := h
 have HC := hid (count_any h.hi h.blk)
 clear h
 go_enter Tryz.func118, Tryz.ntmps118
 go_wp2_with fail
 refine (ask_none w).mono ?_
 rintro e w1 ⟨rfl, rfl⟩
 go_wp2_with fail
 refine Calls.mono HC.out ?_
 rintro e w1 ⟨rfl, rfl⟩
 go_wp2
 go_ret2
 exact ⟨rfl, rfl⟩
end Go.Proofs.YtldlejpacgphmaaGreat
namespace Go.Proofs.YtldlejpacgphmaaGreat
open Go.RowKit
def Jb (w : World) (j c : Nat) (fr bl life seq used : Int) (mv : Value) : Prop := w.heap[j]? = some (.cells #[.pointer (some ⟨c, 0, none⟩), .int .i64 fr, .int .i64 bl, .int .i64 life, .int .i64 seq, .int .i64 used, mv] 115 (0, 0))
theorem Jb.lt {w : World} {j c : Nat} {fr bl life seq used : Int} {mv : Value} (h : Jb w j c fr bl life seq used mv) : j < w.heap.size := (Array.getElem?_eq_some_iff.1 h).1
theorem Jb.cell {w : World} {j c : Nat} {fr bl life seq used : Int} {mv : Value} (h : Jb w j c fr bl life seq used mv) (t : Nat) : w.cell? ⟨j, t, none⟩ = #[.pointer (some ⟨c, 0, none⟩), .int .i64 fr, .int .i64 bl, .int .i64 life, .int .i64 seq, .int .i64 used, mv][t]? := by
 unfold Jb at h
 simp [World.cell?, h]
theorem Jb.below {w w' : World} {j c : Nat} {fr bl life seq used : Int} {mv : Value} (h : Jb w j c fr bl life seq used mv) {B : Nat} (hb : Below B w w') (hj : j < B) : Jb w' j c fr bl life seq used mv := (hb.block j hj).trans h
theorem Jb.frozen {w : World} {j c : Nat} {fr bl life seq used : Int} {mv : Value} (h : Jb w j c fr bl life seq used mv) (t : Nat) : w.frozen? ⟨j, t, none⟩ = false := by
 unfold Jb at h
 simp [World.frozen?, h]
theorem jmost_any (fr bl : Int) (lo : 16 ≤ bl) (hi : bl ≤ 524288) (w : World) : Calls Tryz.prog 54 #[.agg #[.int .i64 fr, .int .i64 bl]] w fun e w' => e = .returned (.int .i64 (bl / 2 - 4)) ∧ Below w.heap.size w w' := by
 go_enter Tryz.func54, Tryz.ntmps54
 go_wp2
 go_ret
 exact ⟨rfl, (Below.refl _ _).alloc (Nat.le_refl _) _⟩
theorem jlogRoom_any (fr bl : Int) (lo : 16 ≤ bl) (hi : bl ≤ 524288) (w : World) : Calls Tryz.prog 94 #[.agg #[.int .i64 fr, .int .i64 bl]] w fun e w' => e = .returned (.int .i64 (bl - 1)) ∧ Below w.heap.size w w' := by
 go_enter Tryz.func94, Tryz.ntmps94
 go_wp2
 go_ret
 exact ⟨rfl, (Below.refl _ _).alloc (Nat.le_refl _) _⟩
theorem jlogBlock_any (fr bl i : Int) (lo : 0 ≤ fr) (hi : fr ≤ 524288) (i0 : 0 ≤ i) (i1 : i ≤ 524288) (w : World) : Calls Tryz.prog 95 #[.agg #[.int .i64 fr, .int .i64 bl], .int .i64 i] w fun e w' => e = .returned (.int .i64 (fr + 1 + i)) ∧ Below w.heap.size w w' := by
 go_enter Tryz.func95, Tryz.ntmps95
 go_wp2
 go_ret
 exact ⟨rfl, (Below.refl _ _).alloc (Nat.le_refl _) _⟩
theorem jhas_any (fr bl at_ : Int) (f0 : 0 ≤ fr) (f1 : fr ≤ 524288) (lo : 0 ≤ bl) (hi : bl ≤ 524288) (w : World) : Calls Tryz.prog 119 #[.agg #[.int .i64 fr, .int .i64 bl], .int .i64 at_] w fun e w' => e = .returned (.bool (decide (fr ≤ at_ ∧ at_ < fr + bl))) ∧ Below w.heap.size w w' := by
 have FIN := hid ((Below.refl w.heap.size w).alloc (Nat.le_refl _) (.cells #[.int .i64 fr, .int .i64 bl] 100))
 go_enter Tryz.func119, Tryz.ntmps119
 by_cases h1 : fr ≤ at_
 ·by_cases h2 : at_ < fr + bl
  ·go_wp2
   go_ret
   exact ⟨by simp [h1, h2], FIN.out⟩
  ·go_wp2
   go_ret
   exact ⟨by simp [h2], FIN.out⟩
 ·go_wp2
  go_ret
  exact ⟨by simp; omega, FIN.out⟩
def mostC (bl : Int) : Int := if bl < 16 ∨ 524288 < bl then 40 else 0
set_option maxRecDepth 100000 in
theorem jMost_any (bl : Int) (w : World) : Calls Tryz.prog 18 #[.int .i64 bl] w fun e w' => e = .returned (.tuple #[.int .i64 (if bl < 16 ∨ 524288 < bl then 0 else bl / 2 - 4), .int .i64 (mostC bl)]) ∧ Below w.heap.size w w' := by
 unfold mostC
 have FIN := hid (Below.refl w.heap.size w)
 by_cases h1 : bl < 16
 ·simp only [h1, true_or, if_true]
  go_enter Tryz.func18, Tryz.ntmps18
  go_wp2
  go_ret2
  exact ⟨rfl, FIN.out⟩
 ·by_cases h2 : 524288 < bl
  ·simp only [h2, or_true, if_true]
   go_enter Tryz.func18, Tryz.ntmps18
   go_wp2
   go_ret2
   exact ⟨rfl, FIN.out⟩
  ·simp only [h1, h2, or_self, if_false]
   have H := hid (jmost_any 0 bl (by omega) (by omega) w)
   go_enter Tryz.func18, Tryz.ntmps18
   go_wp2_with fail
   refine Calls.mono H.out ?_
   rintro e w1 ⟨rfl, b1⟩
   have B1 := hid b1
   clear b1
   go_wp2
   go_ret2
   exact ⟨rfl, B1.out⟩
set_option maxRecDepth 100000 in
theorem jask_any {X : Nat → Prop} {w : World} {j c p : Nat} {fr bl life seq used : Int} {mv : Value} {img : List Int} {puts : List (Nat × List Int)} {fu : Int} {off : Bool} {nb : Nat} (hJ : Jb w j c fr bl life seq used mv) (hc : w.cell? ⟨c, 0, none⟩ = some (.pointer (some ⟨p, 0, none⟩))) (hD : Dk X w p img puts fu off nb) :
  Calls Tryz.prog 83 #[.pointer (some ⟨j, 0, none⟩)] w fun e w' => e = .returned (.int .i64 (if off then 24 else 0)) ∧ Below w.heap.size w w' := by
 have H := hid (On_any hD)
 have j0 := hJ.cell 0
 simp at j0
 clear hJ hD
 go_enter Tryz.func83, Tryz.ntmps83
 go_wp2_with fail
 refine Calls.mono H.out ?_
 rintro e w1 ⟨rfl, b1⟩
 have B1 := hid b1
 clear b1 j0 hc
 cases off
 ·go_wp2
  go_ret
  exact ⟨rfl, B1.out⟩
 ·go_wp2
  go_ret
  exact ⟨rfl, B1.out⟩
end Go.Proofs.YtldlejpacgphmaaGreat
namespace Go.Proofs.YtldlejpacgphmaaGreat
open Go.RowKit
def placeC (nb : Nat) (fr bl : Int) : Int := if bl < 16 ∨ 524288 < bl then 40 else if fr < 0 ∨ (nb : Int) - bl < fr then 40 else 0
set_option maxRecDepth 100000 in
set_option maxHeartbeats 4000000 in
theorem jcheckPlace_any {X : Nat → Prop} {w : World} {j c p : Nat} {fr bl life seq used : Int} {mv : Value} {img : List Int} {puts : List (Nat × List Int)} {fu : Int} {off : Bool} {nb : Nat} (hJ : Jb w j c fr bl life seq used mv) (hc : w.cell? ⟨c, 0, none⟩ = some (.pointer (some ⟨p, 0, none⟩))) (hcs : c < w.heap.size) (hD : Dk X w p img puts fu off nb) (hnb : nb ≤ 524288) :
  Calls Tryz.prog 92 #[.pointer (some ⟨j, 0, none⟩)] w fun e w' => e = .returned (.int .i64 (placeC nb fr bl)) ∧ Below w.heap.size w w' := by
 have H := hid (jMost_any bl w)
 have j2 := hJ.cell 2
 simp at j2
 have HJ := hid hJ
 have HD := hid hD
 have HC := hid (And.intro hc hcs)
 clear hJ hD hc hcs
 unfold placeC
 unfold mostC at H
 by_cases h1 : bl < 16 ∨ 524288 < bl
 ·simp only [if_pos h1] at H ⊢
  clear h1
  go_enter Tryz.func92, Tryz.ntmps92
  go_wp2_with fail
  refine Calls.mono H.out ?_
  rintro e w1 ⟨rfl, b1⟩
  have B1 := hid b1
  clear b1 j2 H
  go_wp2
  go_ret
  exact ⟨rfl, B1.out⟩
 ·simp only [if_neg h1] at H ⊢
  have i1 : 16 ≤ bl := by omega
  have i2 : bl ≤ 524288 := by omega
  clear h1
  obtain ⟨code, hcode⟩ : ∃ code : Int, code = if fr < 0 ∨ (nb : Int) - bl < fr then 40 else 0 := ⟨_, rfl⟩
  rw [← hcode]
  have HCd := hid hcode
  clear hcode
  go_enter Tryz.func92, Tryz.ntmps92
  go_wp2_with fail
  refine Calls.mono H.out ?_
  rintro e w1 ⟨rfl, b1⟩
  have B1 := hid b1
  have hJ1 := HJ.out.below b1 HJ.out.lt
  have j0 := hJ1.cell 0
  have j1 := hJ1.cell 1
  have j2' := hJ1.cell 2
  simp at j0 j1 j2'
  have c0 := (b1.cell (p := ⟨c, 0, none⟩) HC.out.2).trans HC.out.1
  have HB := hid (Blocks_any (HD.out.below b1))
  clear b1 j2 hJ1 H
  go_wp2_with fail
  refine Calls.mono HB.out ?_
  rintro e w2 ⟨rfl, hw2⟩
  rw [hw2]
  clear hw2 HB
  by_cases h2 : fr < 0
  ·have hc := HCd.out
   rw [if_pos (.inl h2)] at hc
   subst hc
   clear HCd
   go_wp2_with fail
   go_region
   all_goals
    go_wp2
    go_ret
    exact ⟨rfl, by simpa using B1.out.drew⟩
  ·obtain ⟨f, rfl⟩ : ∃ f : Nat, fr = (f : Int) := ⟨fr.toNat, by omega⟩
   clear h2
   have hw : IntKind.i64.wrap ((nb : Int) - bl) = (nb : Int) - bl := by rw [IntKind.wrap_i64]; omega
   by_cases h3 : (nb : Int) - bl < f
   ·have hc := HCd.out
    rw [if_pos (.inr h3)] at hc
    subst hc
    clear HCd HJ HD HC j0 c0
    go_wp2_with fail
    go_region_held3 (fun w' => w'.cell? ⟨j, 1, none⟩ = some (.int .i64 (f : Int)) ∧ w'.cell? ⟨j, 2, none⟩ = some (.int .i64 bl)) (first | (exact ⟨by assumption, by assumption⟩) | go_keep) (fail)
    go_wp2
    go_ret
    exact ⟨rfl, by simpa using B1.out.drew⟩
   ·have hc := HCd.out
    rw [if_neg (by omega)] at hc
    subst hc
    clear HCd HJ HD HC j0 c0
    go_wp2_with fail
    go_region_held3 (fun w' => w'.cell? ⟨j, 1, none⟩ = some (.int .i64 (f : Int)) ∧ w'.cell? ⟨j, 2, none⟩ = some (.int .i64 bl)) (first | (exact ⟨by assumption, by assumption⟩) | go_keep) (fail)
    go_wp2
    go_ret
    exact ⟨rfl, by simpa using B1.out.drew⟩
end Go.Proofs.YtldlejpacgphmaaGreat
