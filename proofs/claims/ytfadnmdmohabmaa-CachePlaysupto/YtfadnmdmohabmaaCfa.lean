/-
  Package cache: Read of any block, whatever is held (no word on whether the disk would read the same).
-/
import Derived.Test.YtfadnmdmohabmaaCbb
namespace Go.Proofs.Ytfadnmdmohabmaa
open Go.RowKit Go.ChangeMaps

/-- what is held of a block -/
def heldZ (l : List (Int × List Int)) (x : Int) : Option (List Int) := (l.find? (fun q => q.1 == x)).map (·.2)
/-- what a Read through the cache answers -/
def readS (l : List (Int × List Int)) (img : List Int) (puts : List (Nat × List Int)) (off : Bool) (nb : Nat) (x : Int) : Int × List Int :=
  if off then (24, []) else match heldZ l x with
    | some z => (0, z)
    | none => readR img puts off nb x
theorem heldZ_none {l : List (Int × List Int)} {x : Int} (h : ¬ inL l x) : heldZ l x = none := by
  unfold heldZ
  rw [List.find?_eq_none.2 (fun q hq => by
    have : q.1 ≠ x := fun e => h (List.mem_map.2 ⟨q, hq, e⟩)
    simpa using this)]
  rfl
theorem heldZ_view {A B : List Nat} {e : Nat} {f : Nat → En} {Z : Nat → List Int} {D : DataW Nat} (hD : BM D (A ++ e :: B) f) (hnd : (A ++ e :: B).Nodup) : heldZ (view (A ++ e :: B) f Z) (f e).at_ = some (Z e) := by
  obtain ⟨_, _, n3⟩ := List.nodup_append.1 hnd
  have hv : view (A ++ e :: B) f Z = view A f Z ++ ((f e).at_, Z e) :: view B f Z := by simp [view]
  have hA : (view A f Z).find? (fun q => q.1 == (f e).at_) = none := List.find?_eq_none.2 (fun q hq => by
    unfold view at hq
    obtain ⟨y, hy, rfl⟩ := List.mem_map.1 hq
    have : (f y).at_ ≠ (f e).at_ := fun q => n3 y hy e (by simp) (hD.uniq (by simp [hy]) (by simp) q)
    simpa using this)
  unfold heldZ
  rw [hv, List.find?_append, hA]
  simp
set_option maxHeartbeats 1000000 in
theorem CRead_full {X Y : Nat → Prop} {w : World} {c p room : Nat} {hi mi : Int} {l : List (Int × List Int)} {img : List Int} {puts : List (Nat × List Int)} {fu : Int} {off : Bool} {nb : Nat} (h : CD X Y w c p room hi mi l img puts fu off nb) (hl : puts.length ≤ 1073741824) {x : Int} (hwf : (Lit.int .i64 x).wf = true) (hhi : 0 ≤ hi ∧ hi < 4611686018427387904) (hmi : 0 ≤ mi ∧ mi < 4611686018427387904) :
    Calls Try.prog 12 #[.pointer (some ⟨c, 0, none⟩), .int .i64 x] w fun q w' => ∃ al cp, q = .returned (.tuple #[.slice al (readS l img puts off nb x).2.length cp, .int .i64 (readS l img puts off nb x).1]) ∧
      ((al = none ∧ cp = 0 ∧ (readS l img puts off nb x).2 = []) ∨ ∃ g, al = some ⟨g, 0, none⟩ ∧ w.heap.size ≤ g ∧ Own w' g (readS l img puts off nb x).2.length cp (readS l img puts off nb x).2) ∧
      (∃ X' Y', CD X' Y' w' c p room (hi + hitN l (readS l img puts off nb x).1 x) (mi + missN l (readS l img puts off nb x).1 x) (readL room l (readS l img puts off nb x) x) img puts fu off nb ∧ Grown X Y X' Y' w) ∧ But (fun k => X k ∨ Y k) w w' ∧ Pl.isB (readS l img puts off nb x).2 := by
  by_cases hin : inL l x
  · obtain ⟨q0, hq0, hqx⟩ := List.mem_map.1 hin
    obtain ⟨r, mp, n, es, f, Z, h1, rfl, h3, h4, h5, h6⟩ := h.ca
    unfold view at hq0
    obtain ⟨e, he, rfl⟩ := List.mem_map.1 hq0
    simp only at hqx
    subst hqx
    cases off with
    | true =>
      have hrr : readS (view es f Z) img puts true nb (f e).at_ = (24, []) := rfl
      rw [hrr]
      refine Calls.mono (CRead_off h1 he h.dk hl hwf) ?_
      rintro q w' ⟨rfl, b⟩
      refine ⟨none, 0, rfl, .inl ⟨rfl, rfl, rfl⟩, ?_, But.of_below b, Pl.isB_nil⟩
      have := h.below b
      simpa [hitN, missN, readL] using this
    | false =>
      obtain ⟨A, B, rfl⟩ := List.append_of_mem he
      obtain ⟨D, hm, hD⟩ := h1.map
      have hrr : readS (view (A ++ e :: B) f Z) img puts false nb (f e).at_ = (0, Z e) := by
        unfold readS
        rw [if_neg (by simp), heldZ_view hD (List.nodup_cons.1 h1.ring.1).2]
      rw [hrr]
      obtain ⟨g0, c0, _, o0, z0, _⟩ := h1.dat e (by simp)
      have hlen : (Z e).length = 512 := o0.len
      refine Calls.mono (CRead_hit h1 h.dk hhi hwf) ?_
      rintro q w' ⟨g, cap, rfl, q1, q2, ⟨f', q3, q4⟩, b⟩
      refine ⟨some ⟨g, 0, none⟩, cap, by simp only [hlen], .inr ⟨g, rfl, q1, by simp only [hlen]; exact q2⟩, ?_, b.mono (fun k _ q => .inr q), z0⟩
      have e1 : hitN (view (A ++ e :: B) f Z) (0, Z e).1 (f e).at_ = 1 := by unfold hitN; rw [if_pos ⟨rfl, hin⟩]
      have e2 : missN (view (A ++ e :: B) f Z) (0, Z e).1 (f e).at_ = 0 := by unfold missN; rw [if_neg (fun q => q.2 hin)]
      have e3 : readL room (view (A ++ e :: B) f Z) (0, Z e) (f e).at_ = view (A ++ B ++ [e]) f' Z := by
        unfold readL
        rw [if_pos rfl]
        exact (view_move hD (List.nodup_cons.1 h1.ring.1).2 h3 q4 (fun _ _ => rfl)).symm
      rw [e1, e2, e3, Int.add_zero]
      refine ⟨fun k => X k ∧ k < w.heap.size, Y, ⟨⟨r, mp, n, _, f', Z, q3, rfl, by simp at h3 ⊢; omega, h4, h5, fun y hy => by rw [q4]; exact h6 y (by simp at hy ⊢; rcases hy with q | q | q <;> simp [q])⟩, h.dk.cut.but b (fun k q q' => h.dj k q' q.1), fun k q q' => h.dj k q q'.1⟩, fun k hk => ⟨fun q => q.1, fun q => q⟩⟩
  · have hx : ∀ q ∈ l, q.1 ≠ x := fun q hq e => hin (List.mem_map.2 ⟨q, hq, e⟩)
    have hS : readS l img puts off nb x = readR img puts off nb x := by
      unfold readS
      rw [heldZ_none hin]
      cases off <;> rfl
    rw [hS]
    have hB : Pl.isB (readR img puts off nb x).2 := by
      unfold readR
      split
      · exact Pl.isB_nil
      · split
        · exact Pl.isB_nil
        · exact (h.dk.seen (by omega)).2
    by_cases hz : (readR img puts off nb x).1 = 0
    · have hlen : (readR img puts off nb x).2.length = 512 := by
        unfold readR at hz ⊢
        split at hz
        · simp at hz
        · split at hz
          · simp at hz
          · rw [if_neg ‹_›, if_neg ‹_›]
            exact (h.dk.seen (by omega)).1
      refine Calls.mono (CRead_miss h hl hwf hx hmi hz) ?_
      rintro q w' ⟨g, cap, rfl, q1, q2, q3, b⟩
      have e1 : hitN l (readR img puts off nb x).1 x = 0 := by unfold hitN; rw [if_neg (fun q => hin q.2)]
      have e2 : missN l (readR img puts off nb x).1 x = 1 := by unfold missN; rw [if_pos ⟨hz, hin⟩]
      have e3 : readL room l (readR img puts off nb x) x = holdL room l x (readR img puts off nb x).2 := by unfold readL; rw [if_pos hz]
      refine ⟨some ⟨g, 0, none⟩, cap, by rw [hlen, hz], .inr ⟨g, rfl, q1, by rw [hlen]; exact q2⟩, ?_, b, hB⟩
      rw [e1, e2, e3, Int.add_zero]
      exact q3
    · have hrr : (readR img puts off nb x).2 = [] := by
        unfold readR at hz ⊢
        split
        · rfl
        · split
          · rfl
          · rw [if_neg ‹_›, if_neg ‹_›] at hz
            exact absurd rfl hz
      refine Calls.mono (CRead_bad h hl hwf hx hz) ?_
      rintro q w' ⟨rfl, b⟩
      have e1 : hitN l (readR img puts off nb x).1 x = 0 := by unfold hitN; rw [if_neg (fun q => hz q.1)]
      have e2 : missN l (readR img puts off nb x).1 x = 0 := by unfold missN; rw [if_neg (fun q => hz q.1)]
      have e3 : readL room l (readR img puts off nb x) x = l := by unfold readL; rw [if_neg hz]
      refine ⟨none, 0, by rw [hrr]; rfl, .inl ⟨rfl, rfl, hrr⟩, ?_, But.of_below b, hB⟩
      rw [e1, e2, e3, Int.add_zero, Int.add_zero]
      exact h.below b

end Go.Proofs.Ytfadnmdmohabmaa

/-
  Package cache: Read of any block, whatever is held: what is handed out lies apart.
-/
namespace Go.Proofs.Ytfadnmdmohabmaa
open Go.RowKit Go.ChangeMaps

set_option maxRecDepth 100000 in
set_option maxHeartbeats 4000000 in
theorem CRead_miss2 {X Y : Nat → Prop} {w : World} {c p room : Nat} {hi mi : Int} {l : List (Int × List Int)} {img : List Int} {puts : List (Nat × List Int)} {fu : Int} {off : Bool} {nb : Nat} (h : CD X Y w c p room hi mi l img puts fu off nb) (hl : puts.length ≤ 1073741824) {x : Int} (hwf : (Lit.int .i64 x).wf = true) (hx : ∀ q ∈ l, q.1 ≠ x) (hmi : 0 ≤ mi ∧ mi < 4611686018427387904) (hz : (readR img puts off nb x).1 = 0) :
    Calls Try.prog 12 #[.pointer (some ⟨c, 0, none⟩), .int .i64 x] w fun q w' => ∃ g cap, q = .returned (.tuple #[.slice (some ⟨g, 0, none⟩) 512 cap, .int .i64 0]) ∧ w.heap.size ≤ g ∧ Own w' g 512 cap (readR img puts off nb x).2 ∧ (∃ X' Y', CD X' Y' w' c p room hi (mi + 1) (holdL room l x (readR img puts off nb x).2) img puts fu off nb ∧ Grown X Y X' Y' w ∧ ¬ X' g ∧ ¬ Y' g) ∧ But (fun k => X k ∨ Y k) w w' := by
  have hrr : (readR img puts off nb x).2.length = 512 ∧ Pl.isB (readR img puts off nb x).2 := by
    unfold readR at hz ⊢
    split at hz
    · simp at hz
    · split at hz
      · simp at hz
      · rw [if_neg ‹_›, if_neg ‹_›]
        exact h.dk.seen (by omega)
  have HR := hid (Read_any h.dk x hl)
  rw [hz] at HR
  generalize (readR img puts off nb x).2 = zs at *
  obtain ⟨hlen, hisb⟩ := hrr
  rw [hlen] at HR
  obtain ⟨r, mp, n, es, f, Z, h1, hlv, _⟩ := h.ca
  obtain ⟨D, hm, hBM⟩ := h1.map
  have hkey : keyOf Try.prog 3 (.int .i64 x) = some (.int .i64 x) := Maps.keyOf_int_mk Try.underlying3 hwf
  have hhas := hBM.miss x (fun e he => hx ((f e).at_, Z e) (by rw [hlv]; unfold view; exact List.mem_map.2 ⟨e, he, rfl⟩))
  obtain ⟨x0, x1, x2, x3, x4, x5⟩ := h1.blk.cells
  have hcl := h1.blk.lt
  have hYc := h1.xc
  have H := hid h
  clear h hBM h1 hx hz hlv
  go_enter Try.func12, Try.ntmps12
  go_wp2_with (at_lookup; refine wpList_lookup_own_ok _ rfl _ _ 55 rfl 3 54 law3 Try.underlying55 ptrElem (zero45 _) .nil [] rfl mp n D rfl hm _ _ rfl hkey ?_; intro v ps hv; clear hv; rw [hhas])
  refine Calls.mono HR.out ?_
  rintro q w1 ⟨al, cp, rfl, hal, b1⟩
  obtain ⟨g, rfl, hg, o1⟩ : ∃ g, al = some ⟨g, 0, none⟩ ∧ w.heap.size ≤ g ∧ Own w1 g 512 cp zs := by
    rcases hal with ⟨_, _, q⟩ | q
    · rw [q] at hlen; simp at hlen
    · exact q
  have s1 := b1.size
  have y5 : w1.cell? ⟨c, 5, none⟩ = some (.int .i64 mi) := (World.cell?_of_block (w := w) (b1.block c hcl)).trans x5
  have ca1 : Cst (fun k => (Y k ∧ k < w.heap.size) ∨ k = g) w1 c p room hi mi l := (H.out.ca.cut.keep (fun k q hk => b1.block k hk)).mono (fun k _ q => .inl q)
  obtain ⟨v2, v3, cg1, _⟩ := ca1.cg
  have f5 := cg1.frozen 5
  obtain ⟨w2, hw2⟩ : ∃ w2, w2 = w1.setCell ⟨c, 5, none⟩ (.int .i64 (mi + 1)) := ⟨_, rfl⟩
  have ca2 : Cst (fun k => (Y k ∧ k < w.heap.size) ∨ k = g) w2 c p room hi (mi + 1) l := by rw [hw2]; exact ca1.addMiss (mi + 1)
  have b2 : But (fun k => k = c) w1 w2 := by rw [hw2]; exact (But.refl (fun y => y = c) w1).setCell (p := ⟨c, 5, none⟩) (show (fun y => y = c) c from rfl) _
  have z2 : w2.heap.size = w1.heap.size := by rw [hw2]; simp [World.setCell]
  have HH := hid (hold_any ca2 (o1.keep (b2.block g o1.lt (by omega))) hisb (.inr rfl) hwf)
  have K := hid (And.intro b1 b2)
  clear ca1 ca2 b1 b2 o1 cg1 hal HR x0 x1 x2 x3 x4 x5
  go_wp2_with fail
  rw [← hw2]
  refine Calls.mono HH.out ?_
  rintro q w3 ⟨rfl, ca3, b3, o3⟩
  have HC := hid (Clone_any ⟨g, 0, none⟩ 512 cp zs w3 (by omega) (o3.rd hisb))
  have K3 := hid (And.intro ca3 b3)
  clear ca3 b3 o3 HH
  go_wp2_with fail
  refine Calls.mono HC.out ?_
  rintro q w4 ⟨g', cap', rfl, g4, o4, b4⟩
  have FIN : Hid (w.heap.size ≤ g' ∧ Own w4 g' 512 cap' zs ∧ (∃ X' Y', CD X' Y' w4 c p room hi (mi + 1) (holdL room l x zs) img puts fu off nb ∧ Grown X Y X' Y' w ∧ ¬ X' g' ∧ ¬ Y' g') ∧ But (fun k => X k ∨ Y k) w w4) := by
    have s3 := K3.out.2.size
    have hdj := H.out.dj
    refine ⟨by omega, o4, ⟨fun k => X k ∧ k < w.heap.size, _, ⟨K3.out.1.cut.keep (fun k _ hk => b4.block k hk), ((((H.out.dk.cut.below K.out.1).but K.out.2 (fun k q q' => hdj c hYc (by rw [← q']; exact q.1))).but K3.out.2 (fun k q q' => ?_)).below b4), fun k q q' => ?_⟩, fun k hk => ⟨fun q => q.1, fun q => ?_⟩, fun q => by have := q.2; omega, fun q => by have := q.2; omega⟩, ?_⟩
    · rcases q' with ⟨q1, q2⟩ | q1
      · exact hdj k q1 q.1
      · omega
    · rcases q.1 with (⟨q1, q2⟩ | q1) | q1
      · exact hdj k q1 q'.1
      · omega
      · omega
    · rcases q.1 with (⟨q1, q2⟩ | q1) | q1
      · exact q1
      · omega
      · omega
    · have e1 : But (fun k => X k ∨ Y k) w w2 := (But.of_below K.out.1).comp K.out.2 (fun k _ q => .inr (by rw [q]; exact hYc))
      exact (e1.comp K3.out.2 (fun k hk q => by
        rcases q with ⟨q1, q2⟩ | q1
        · exact .inr q1
        · omega)).trans (But.of_below b4)
  clear o4 b4 HC K K3 H
  go_wp2
  go_ret2
  exact ⟨g', cap', rfl, FIN.out.1, FIN.out.2.1, FIN.out.2.2.1, FIN.out.2.2.2⟩

set_option maxHeartbeats 1000000 in
theorem CRead_full2 {X Y : Nat → Prop} {w : World} {c p room : Nat} {hi mi : Int} {l : List (Int × List Int)} {img : List Int} {puts : List (Nat × List Int)} {fu : Int} {off : Bool} {nb : Nat} (h : CD X Y w c p room hi mi l img puts fu off nb) (hYc : ∀ k, Y k → k < w.heap.size) (hl : puts.length ≤ 1073741824) {x : Int} (hwf : (Lit.int .i64 x).wf = true) (hhi : 0 ≤ hi ∧ hi < 4611686018427387904) (hmi : 0 ≤ mi ∧ mi < 4611686018427387904) :
    Calls Try.prog 12 #[.pointer (some ⟨c, 0, none⟩), .int .i64 x] w fun q w' => ∃ al cp, q = .returned (.tuple #[.slice al (readS l img puts off nb x).2.length cp, .int .i64 (readS l img puts off nb x).1]) ∧
      ((al = none ∧ cp = 0 ∧ (readS l img puts off nb x).2 = []) ∨ ∃ g, al = some ⟨g, 0, none⟩ ∧ w.heap.size ≤ g ∧ Own w' g (readS l img puts off nb x).2.length cp (readS l img puts off nb x).2) ∧
      (∃ X' Y', CD X' Y' w' c p room (hi + hitN l (readS l img puts off nb x).1 x) (mi + missN l (readS l img puts off nb x).1 x) (readL room l (readS l img puts off nb x) x) img puts fu off nb ∧ Grown X Y X' Y' w ∧ ∀ g, al = some ⟨g, 0, none⟩ → ¬ X' g ∧ ¬ Y' g) ∧ But (fun k => X k ∨ Y k) w w' ∧ Pl.isB (readS l img puts off nb x).2 := by
  by_cases hin : inL l x
  · obtain ⟨q0, hq0, hqx⟩ := List.mem_map.1 hin
    obtain ⟨r, mp, n, es, f, Z, h1, rfl, h3, h4, h5, h6⟩ := h.ca
    unfold view at hq0
    obtain ⟨e, he, rfl⟩ := List.mem_map.1 hq0
    simp only at hqx
    subst hqx
    cases off with
    | true =>
      have hrr : readS (view es f Z) img puts true nb (f e).at_ = (24, []) := rfl
      rw [hrr]
      refine Calls.mono (CRead_off h1 he h.dk hl hwf) ?_
      rintro q w' ⟨rfl, b⟩
      refine ⟨none, 0, rfl, .inl ⟨rfl, rfl, rfl⟩, ?_, But.of_below b, Pl.isB_nil⟩
      obtain ⟨X', Y', t1, t2⟩ := h.below b
      refine ⟨X', Y', ?_, t2, fun g e => by cases e⟩
      simpa [hitN, missN, readL] using t1
    | false =>
      obtain ⟨A, B, rfl⟩ := List.append_of_mem he
      obtain ⟨D, hm, hD⟩ := h1.map
      have hrr : readS (view (A ++ e :: B) f Z) img puts false nb (f e).at_ = (0, Z e) := by
        unfold readS
        rw [if_neg (by simp), heldZ_view hD (List.nodup_cons.1 h1.ring.1).2]
      rw [hrr]
      obtain ⟨g0, c0, _, o0, z0, _⟩ := h1.dat e (by simp)
      have hlen : (Z e).length = 512 := o0.len
      refine Calls.mono (CRead_hit h1 h.dk hhi hwf) ?_
      rintro q w' ⟨g, cap, rfl, q1, q2, ⟨f', q3, q4⟩, b⟩
      refine ⟨some ⟨g, 0, none⟩, cap, by simp only [hlen], .inr ⟨g, rfl, q1, by simp only [hlen]; exact q2⟩, ?_, b.mono (fun k _ q => .inr q), z0⟩
      have e1 : hitN (view (A ++ e :: B) f Z) (0, Z e).1 (f e).at_ = 1 := by unfold hitN; rw [if_pos ⟨rfl, hin⟩]
      have e2 : missN (view (A ++ e :: B) f Z) (0, Z e).1 (f e).at_ = 0 := by unfold missN; rw [if_neg (fun q => q.2 hin)]
      have e3 : readL room (view (A ++ e :: B) f Z) (0, Z e) (f e).at_ = view (A ++ B ++ [e]) f' Z := by
        unfold readL
        rw [if_pos rfl]
        exact (view_move hD (List.nodup_cons.1 h1.ring.1).2 h3 q4 (fun _ _ => rfl)).symm
      rw [e1, e2, e3, Int.add_zero]
      refine ⟨fun k => X k ∧ k < w.heap.size, Y, ⟨⟨r, mp, n, _, f', Z, q3, rfl, by simp at h3 ⊢; omega, h4, h5, fun y hy => by rw [q4]; exact h6 y (by simp at hy ⊢; rcases hy with q | q | q <;> simp [q])⟩, h.dk.cut.but b (fun k q q' => h.dj k q' q.1), fun k q q' => h.dj k q q'.1⟩, fun k hk => ⟨fun q => q.1, fun q => q⟩, fun g' e => by cases e; exact ⟨fun q => by have := q.2; omega, fun q => by have := hYc _ q; omega⟩⟩
  · have hx : ∀ q ∈ l, q.1 ≠ x := fun q hq e => hin (List.mem_map.2 ⟨q, hq, e⟩)
    have hS : readS l img puts off nb x = readR img puts off nb x := by
      unfold readS
      rw [heldZ_none hin]
      cases off <;> rfl
    rw [hS]
    have hB : Pl.isB (readR img puts off nb x).2 := by
      unfold readR
      split
      · exact Pl.isB_nil
      · split
        · exact Pl.isB_nil
        · exact (h.dk.seen (by omega)).2
    by_cases hz : (readR img puts off nb x).1 = 0
    · have hlen : (readR img puts off nb x).2.length = 512 := by
        unfold readR at hz ⊢
        split at hz
        · simp at hz
        · split at hz
          · simp at hz
          · rw [if_neg ‹_›, if_neg ‹_›]
            exact (h.dk.seen (by omega)).1
      refine Calls.mono (CRead_miss2 h hl hwf hx hmi hz) ?_
      rintro q w' ⟨g, cap, rfl, q1, q2, q3, b⟩
      have e1 : hitN l (readR img puts off nb x).1 x = 0 := by unfold hitN; rw [if_neg (fun q => hin q.2)]
      have e2 : missN l (readR img puts off nb x).1 x = 1 := by unfold missN; rw [if_pos ⟨hz, hin⟩]
      have e3 : readL room l (readR img puts off nb x) x = holdL room l x (readR img puts off nb x).2 := by unfold readL; rw [if_pos hz]
      refine ⟨some ⟨g, 0, none⟩, cap, by rw [hlen, hz], .inr ⟨g, rfl, q1, by rw [hlen]; exact q2⟩, ?_, b, hB⟩
      rw [e1, e2, e3, Int.add_zero]
      obtain ⟨X', Y', t1, t2, t3, t4⟩ := q3
      exact ⟨X', Y', t1, t2, fun g' e => by cases e; exact ⟨t3, t4⟩⟩
    · have hrr : (readR img puts off nb x).2 = [] := by
        unfold readR at hz ⊢
        split
        · rfl
        · split
          · rfl
          · rw [if_neg ‹_›, if_neg ‹_›] at hz
            exact absurd rfl hz
      refine Calls.mono (CRead_bad h hl hwf hx hz) ?_
      rintro q w' ⟨rfl, b⟩
      have e1 : hitN l (readR img puts off nb x).1 x = 0 := by unfold hitN; rw [if_neg (fun q => hz q.1)]
      have e2 : missN l (readR img puts off nb x).1 x = 0 := by unfold missN; rw [if_neg (fun q => hz q.1)]
      have e3 : readL room l (readR img puts off nb x) x = l := by unfold readL; rw [if_neg hz]
      refine ⟨none, 0, by rw [hrr]; rfl, .inl ⟨rfl, rfl, hrr⟩, ?_, But.of_below b, hB⟩
      rw [e1, e2, e3, Int.add_zero, Int.add_zero]
      obtain ⟨X', Y', t1, t2⟩ := h.below b
      exact ⟨X', Y', t1, t2, fun g e => by cases e⟩


end Go.Proofs.Ytfadnmdmohabmaa

/-
  The document's list of uses, and what is held of it: a plain text.
-/
namespace Go.Proofs.Ytfadnmdmohabmaa
open Go.RowKit

abbrev Us := List (Int × List Int)
/-- one use more, gone through from the last one back: if its block is not there yet -/
def stepB (b : Us) (q : Int × List Int) : Us := if b.any (fun p => p.1 == q.1) then b else b ++ [q]
/-- from the last one back, up to the room -/
def backR (room : Nat) : Us → Us → Us
  | [], b => b
  | q :: t, b => if b.length < room then backR room t (stepB b q) else b
/-- what is held: the least lately used first -/
def heldU (room : Nat) (us : Us) : Us := (backR room us.reverse []).reverse

theorem stepB_app (b : Us) (q : Int × List Int) : ∃ s, stepB b q = b ++ s := by
  unfold stepB
  split
  · exact ⟨[], by simp⟩
  · exact ⟨[q], rfl⟩
theorem fold_app : ∀ (t b : Us), ∃ s, t.foldl stepB b = b ++ s
  | [], b => ⟨[], by simp⟩
  | q :: t, b => by
    obtain ⟨s1, h1⟩ := stepB_app b q
    obtain ⟨s2, h2⟩ := fold_app t (stepB b q)
    exact ⟨s1 ++ s2, by simp only [List.foldl_cons]; rw [h2, h1, List.append_assoc]⟩
theorem stepB_len (b : Us) (q : Int × List Int) : (stepB b q).length ≤ b.length + 1 := by
  unfold stepB
  split
  · omega
  · simp
theorem back_take (room : Nat) : ∀ (t b : Us), b.length ≤ room → backR room t b = (t.foldl stepB b).take room
  | [], b, h => by
    unfold backR
    rw [List.foldl_nil, List.take_of_length_le h]
  | q :: t, b, h => by
    unfold backR
    split
    · rw [back_take room t (stepB b q) (by have := stepB_len b q; omega)]
      rfl
    · obtain ⟨s, hs⟩ := fold_app (q :: t) b
      rw [hs, List.take_append_of_le_length (by omega), List.take_of_length_le (by omega)]
theorem any_iff (b : Us) (x : Int) : b.any (fun p => p.1 == x) = true ↔ ∃ p ∈ b, p.1 = x := by
  rw [List.any_eq_true]
  exact ⟨fun ⟨p, h1, h2⟩ => ⟨p, h1, by simpa using h2⟩, fun ⟨p, h1, h2⟩ => ⟨p, h1, by simpa using h2⟩⟩
/-- the blocks are different ones -/
def Keys (b : Us) : Prop := b.Pairwise (fun p q => p.1 ≠ q.1)
theorem keys_step {b : Us} (h : Keys b) (q : Int × List Int) : Keys (stepB b q) := by
  unfold stepB
  split
  · exact h
  · rename_i hn
    unfold Keys
    rw [List.pairwise_append]
    refine ⟨h, by simp, fun p hp r hr => ?_⟩
    rw [List.mem_singleton.1 hr]
    exact fun e => hn ((any_iff b q.1).2 ⟨p, hp, e⟩)
theorem keys_fold : ∀ (t b : Us), Keys b → Keys (t.foldl stepB b)
  | [], _, h => h
  | q :: t, _, h => keys_fold t _ (keys_step h q)
theorem fold_front (x : Int) (z : List Int) : ∀ (t b : Us), t.foldl stepB ((x, z) :: b.filter (fun q => q.1 ≠ x)) = (x, z) :: (t.foldl stepB b).filter (fun q => q.1 ≠ x)
  | [], _ => rfl
  | q :: t, b => by
    simp only [List.foldl_cons]
    have hs : stepB ((x, z) :: b.filter (fun q => q.1 ≠ x)) q = (x, z) :: (stepB b q).filter (fun q => q.1 ≠ x) := by
      by_cases e : q.1 = x
      · have h1 : stepB ((x, z) :: b.filter (fun q => q.1 ≠ x)) q = (x, z) :: b.filter (fun q => q.1 ≠ x) := by
          unfold stepB
          rw [if_pos ((any_iff _ _).2 ⟨(x, z), by simp, e.symm⟩)]
        rw [h1]
        unfold stepB
        split
        · rfl
        · rw [List.filter_append, List.filter_cons_of_neg (by simpa using e)]
          simp
      · by_cases ha : ∃ p ∈ b, p.1 = q.1
        · obtain ⟨p, hp, hq⟩ := ha
          have h1 : stepB b q = b := by unfold stepB; rw [if_pos ((any_iff _ _).2 ⟨p, hp, hq⟩)]
          rw [h1]
          unfold stepB
          rw [if_pos ((any_iff _ _).2 ⟨p, by
            refine List.mem_cons_of_mem _ (List.mem_filter.2 ⟨hp, ?_⟩)
            have : p.1 ≠ x := fun w => e (hq ▸ w)
            simpa using this, hq⟩)]
        · have h1 : stepB b q = b ++ [q] := by unfold stepB; rw [if_neg (fun w => ha ((any_iff _ _).1 w))]
          have h2 : ¬ ((x, z) :: b.filter (fun q => q.1 ≠ x)).any (fun p => p.1 == q.1) = true := fun w => by
            obtain ⟨p, hp, hq⟩ := (any_iff _ _).1 w
            rcases List.mem_cons.1 hp with rfl | hp
            · exact e hq.symm
            · exact ha ⟨p, (List.mem_filter.1 hp).1, hq⟩
          rw [h1]
          unfold stepB
          rw [if_neg h2, List.filter_append, List.filter_cons_of_pos (by simpa using e)]
          simp
    rw [hs]
    exact fold_front x z t _
theorem take_filter (x : Int) : ∀ (m : Nat) (D : Us), Keys D → ((D.take (m + 1)).filter (fun q => q.1 ≠ x)).take m = (D.filter (fun q => q.1 ≠ x)).take m
  | _, [], _ => by simp
  | m, q :: t, h => by
    obtain ⟨h1, h2⟩ := List.pairwise_cons.1 h
    by_cases e : q.1 = x
    · have ht : ∀ s : Us, (∀ p ∈ s, p ∈ t) → s.filter (fun q => q.1 ≠ x) = s := fun s hs => List.filter_eq_self.2 (fun p hp => by
        have : p.1 ≠ x := fun w => h1 p (hs p hp) (e.trans w.symm)
        simpa using this)
      rw [List.take_succ_cons, List.filter_cons_of_neg (by simpa using e), List.filter_cons_of_neg (by simpa using e), ht _ (fun p hp => List.mem_of_mem_take hp), ht t (fun p hp => hp), List.take_take, Nat.min_self]
    · rw [List.take_succ_cons, List.filter_cons_of_pos (by simpa using e), List.filter_cons_of_pos (by simpa using e)]
      cases m with
      | zero => simp
      | succ m => rw [List.take_succ_cons, List.take_succ_cons, take_filter x m t h2]
/-- ONE USE MORE: what is held is what the cache holds -/
theorem heldU_push {room : Nat} (hr : 1 ≤ room) (us : Us) (x : Int) (z : List Int) : heldU room (us ++ [(x, z)]) = holdL room (heldU room us) x z := by
  obtain ⟨m, rfl⟩ : ∃ m, room = m + 1 := ⟨room - 1, by omega⟩
  have hD := keys_fold us.reverse [] List.Pairwise.nil
  have e1 : heldU (m + 1) (us ++ [(x, z)]) = ((((us.reverse.foldl stepB []).filter (fun q => q.1 ≠ x)).take m).reverse) ++ [(x, z)] := by
    unfold heldU
    rw [List.reverse_append, List.reverse_singleton, back_take _ _ _ (by simp)]
    have : ([(x, z)] ++ us.reverse).foldl stepB [] = us.reverse.foldl stepB ((x, z) :: ([] : Us).filter (fun q => q.1 ≠ x)) := rfl
    rw [this, fold_front, List.take_succ_cons, List.reverse_cons]
  have e2 : heldU (m + 1) us = ((us.reverse.foldl stepB []).take (m + 1)).reverse := by
    unfold heldU
    rw [back_take _ _ _ (by simp)]
  rw [e1, e2]
  generalize us.reverse.foldl stepB [] = D at hD ⊢
  rw [← take_filter x m D hD]
  have hG : ((D.take (m + 1)).reverse.filter (fun q => q.1 ≠ x)) = ((D.take (m + 1)).filter (fun q => q.1 ≠ x)).reverse := by rw [List.filter_reverse]
  have hle : ((D.take (m + 1)).filter (fun q => q.1 ≠ x)).length ≤ m + 1 := Nat.le_trans (List.length_filter_le _ _) (by simp; omega)
  unfold holdL
  rw [hG]
  generalize (D.take (m + 1)).filter (fun q => q.1 ≠ x) = G at hle ⊢
  split
  · rename_i hlt
    have hlen : G.length = m + 1 := by simp at hlt; omega
    obtain ⟨H, y, rfl⟩ : ∃ H y, G = H ++ [y] := by
      have hne : G ≠ [] := fun e => by rw [e] at hlen; simp at hlen
      exact ⟨G.dropLast, G.getLast hne, (List.dropLast_concat_getLast hne).symm⟩
    have hH : H.length = m := by simpa using hlen
    rw [List.take_append_of_le_length (by omega), List.take_of_length_le (by omega), List.reverse_append]
    simp
  · rename_i hlt
    rw [List.take_of_length_le (by simp at hlt; omega)]
theorem heldU_nil (room : Nat) : heldU room [] = [] := rfl

end Go.Proofs.Ytfadnmdmohabmaa

/-
  Package cache: what is no cache.
-/
namespace Go.Proofs.Ytfadnmdmohabmaa
open Go.RowKit

theorem CRead_nil (w : World) (k : Int) : Calls Try.prog 12 #[.pointer none, .int .i64 k] w fun e w' => e = .returned (.tuple #[.slice none 0 0, .int .i64 1]) ∧ w' = w := by
  go_enter Try.func12, Try.ntmps12
  go_wp2
  go_ret2
  exact ⟨rfl, rfl⟩
theorem CWrite_nil (w : World) (k : Int) (v : Value) : Calls Try.prog 15 #[.pointer none, .int .i64 k, v] w fun e w' => e = .returned (.int .i64 1) ∧ w' = w := by
  go_enter Try.func15, Try.ntmps15
  go_wp2
  go_ret
  exact ⟨rfl, rfl⟩
theorem CHeld_nil (w : World) : Calls Try.prog 13 #[.pointer none] w fun e w' => e = .returned (.tuple #[.slice none 0 0, .int .i64 1]) ∧ w' = w := by
  go_enter Try.func13, Try.ntmps13
  go_wp2
  go_ret2
  exact ⟨rfl, rfl⟩
theorem CCounts_nil (w : World) : Calls Try.prog 14 #[.pointer none] w fun e w' => e = .returned (.tuple #[.int .i64 0, .int .i64 0, .int .i64 1]) ∧ w' = w := by
  go_enter Try.func14, Try.ntmps14
  go_wp2
  go_ret3
  exact ⟨rfl, rfl⟩
theorem CForget_nil (w : World) : Calls Try.prog 18 #[.pointer none] w fun e w' => e = .returned (.int .i64 1) ∧ w' = w := by
  go_enter Try.func18, Try.ntmps18
  go_wp2
  go_ret
  exact ⟨rfl, rfl⟩
theorem CFlush_nil (w : World) : Calls Try.prog 17 #[.pointer none] w fun e w' => e = .returned (.int .i64 1) ∧ w' = w := by
  go_enter Try.func17, Try.ntmps17
  go_wp2
  go_ret
  exact ⟨rfl, rfl⟩
theorem CNew_nil (w : World) (room : Int) : Calls Try.prog 4 #[.pointer none, .int .i64 room] w fun e w' => e = .returned (.tuple #[.pointer none, .int .i64 1]) ∧ w' = w := by
  go_enter Try.func4, Try.ntmps4
  go_wp2
  go_ret2
  exact ⟨rfl, rfl⟩
theorem CNew_bad (w : World) (p : Nat) (room : Int) (h : room < 1 ∨ 4096 < room) : Calls Try.prog 4 #[.pointer (some ⟨p, 0, none⟩), .int .i64 room] w fun e w' => e = .returned (.tuple #[.pointer none, .int .i64 30]) ∧ w' = w := by
  go_enter Try.func4, Try.ntmps4
  by_cases h1 : room < 1
  · go_wp2
    go_ret2
    exact ⟨rfl, rfl⟩
  · have h2 : 4096 < room := by omega
    go_wp2
    go_ret2
    exact ⟨rfl, rfl⟩

end Go.Proofs.Ytfadnmdmohabmaa
