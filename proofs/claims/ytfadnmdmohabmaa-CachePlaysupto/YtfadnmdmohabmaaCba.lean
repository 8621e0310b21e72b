/-
  Package cache: Read of a block that is not held.
-/
import Derived.Test.YtfadnmdmohabmaaCad
namespace Go.Proofs.Ytfadnmdmohabmaa
open Go.RowKit Go.ChangeMaps

theorem foldl_P {P : List Int → Prop} {x : Nat} : ∀ (ps : List (Nat × List Int)) (s : List Int), P s → (∀ q ∈ ps, P q.2) → P (ps.foldl (fun s q => if q.1 = x then q.2 else s) s)
  | [], _, h, _ => h
  | q :: t, s, h, ht => by
    simp only [List.foldl_cons]
    refine foldl_P t _ ?_ (fun q' hq => ht q' (by simp [hq]))
    split
    · exact ht q (by simp)
    · exact h
theorem Dk.seen {X : Nat → Prop} {w : World} {p : Nat} {img : List Int} {puts : List (Nat × List Int)} {fu : Int} {off : Bool} {nb : Nat} (h : Dk X w p img puts fu off nb) {x : Nat} (hx : x < nb) : (seenZ img puts x).length = 512 ∧ Pl.isB (seenZ img puts x) := by
  have hf := h.facts
  obtain ⟨ds, gL, cL, pv, mp, rfl, h⟩ := h
  unfold seenZ
  refine foldl_P (P := fun s => s.length = 512 ∧ Pl.isB s) _ _ ⟨by simp [hf.2.1]; omega, fun z hz => hf.1 z (List.mem_of_mem_drop (List.mem_of_mem_take hz))⟩ (fun q hq => ?_)
  obtain ⟨d, hd, rfl⟩ := List.mem_map.1 hq
  exact ⟨(h.dat d hd).1.len, (h.dat d hd).2.1⟩
theorem Cst.addMiss {X : Nat → Prop} {w : World} {c p room : Nat} {hi mi : Int} {l : List (Int × List Int)} (h : Cst X w c p room hi mi l) (y : Int) : Cst X (w.setCell ⟨c, 5, none⟩ (.int .i64 y)) c p room hi y l := by
  obtain ⟨r, mp, n, es, f, Z, h1, h2⟩ := h
  exact ⟨r, mp, n, es, f, Z, h1.addMiss y, h2⟩

set_option maxRecDepth 100000 in
set_option maxHeartbeats 4000000 in
theorem CRead_miss {X Y : Nat → Prop} {w : World} {c p room : Nat} {hi mi : Int} {l : List (Int × List Int)} {img : List Int} {puts : List (Nat × List Int)} {fu : Int} {off : Bool} {nb : Nat} (h : CD X Y w c p room hi mi l img puts fu off nb) (hl : puts.length ≤ 1073741824) {x : Int} (hwf : (Lit.int .i64 x).wf = true) (hx : ∀ q ∈ l, q.1 ≠ x) (hmi : 0 ≤ mi ∧ mi < 4611686018427387904) (hz : (readR img puts off nb x).1 = 0) :
    Calls Try.prog 12 #[.pointer (some ⟨c, 0, none⟩), .int .i64 x] w fun q w' => ∃ g cap, q = .returned (.tuple #[.slice (some ⟨g, 0, none⟩) 512 cap, .int .i64 0]) ∧ w.heap.size ≤ g ∧ Own w' g 512 cap (readR img puts off nb x).2 ∧ (∃ X' Y', CD X' Y' w' c p room hi (mi + 1) (holdL room l x (readR img puts off nb x).2) img puts fu off nb ∧ Grown X Y X' Y' w) ∧ But (fun k => X k ∨ Y k) w w' := by
  have hrr : (readR img puts off nb x).2.length = 512 ∧ Pl.isB (readR img puts off nb x).2 := by
    unfold readR at hz ⊢
    split at hz
    · simp at hz
    · split at hz
      · simp at hz
      · rw [if_neg ‹_›, if_neg ‹_›]
        exact h.dk.seen (by omega)
  have HR := hid (Read_any h.dk x hl)
  rw [hz] at HR
  generalize (readR img puts off nb x).2 = zs at *
  obtain ⟨hlen, hisb⟩ := hrr
  rw [hlen] at HR
  obtain ⟨r, mp, n, es, f, Z, h1, hlv, _⟩ := h.ca
  obtain ⟨D, hm, hBM⟩ := h1.map
  have hkey : keyOf Try.prog 3 (.int .i64 x) = some (.int .i64 x) := Maps.keyOf_int_mk Try.underlying3 hwf
  have hhas := hBM.miss x (fun e he => hx ((f e).at_, Z e) (by rw [hlv]; unfold view; exact List.mem_map.2 ⟨e, he, rfl⟩))
  obtain ⟨x0, x1, x2, x3, x4, x5⟩ := h1.blk.cells
  have hcl := h1.blk.lt
  have hYc := h1.xc
  have H := hid h
  clear h hBM h1 hx hz hlv
  go_enter Try.func12, Try.ntmps12
  go_wp2_with (at_lookup; refine wpList_lookup_own_ok _ rfl _ _ 55 rfl 3 54 law3 Try.underlying55 ptrElem (zero45 _) .nil [] rfl mp n D rfl hm _ _ rfl hkey ?_; intro v ps hv; clear hv; rw [hhas])
  refine Calls.mono HR.out ?_
  rintro q w1 ⟨al, cp, rfl, hal, b1⟩
  obtain ⟨g, rfl, hg, o1⟩ : ∃ g, al = some ⟨g, 0, none⟩ ∧ w.heap.size ≤ g ∧ Own w1 g 512 cp zs := by
    rcases hal with ⟨_, _, q⟩ | q
    · rw [q] at hlen; simp at hlen
    · exact q
  have s1 := b1.size
  have y5 : w1.cell? ⟨c, 5, none⟩ = some (.int .i64 mi) := (World.cell?_of_block (w := w) (b1.block c hcl)).trans x5
  have ca1 : Cst (fun k => (Y k ∧ k < w.heap.size) ∨ k = g) w1 c p room hi mi l := (H.out.ca.cut.keep (fun k q hk => b1.block k hk)).mono (fun k _ q => .inl q)
  obtain ⟨v2, v3, cg1, _⟩ := ca1.cg
  have f5 := cg1.frozen 5
  obtain ⟨w2, hw2⟩ : ∃ w2, w2 = w1.setCell ⟨c, 5, none⟩ (.int .i64 (mi + 1)) := ⟨_, rfl⟩
  have ca2 : Cst (fun k => (Y k ∧ k < w.heap.size) ∨ k = g) w2 c p room hi (mi + 1) l := by rw [hw2]; exact ca1.addMiss (mi + 1)
  have b2 : But (fun k => k = c) w1 w2 := by rw [hw2]; exact (But.refl (fun y => y = c) w1).setCell (p := ⟨c, 5, none⟩) (show (fun y => y = c) c from rfl) _
  have z2 : w2.heap.size = w1.heap.size := by rw [hw2]; simp [World.setCell]
  have HH := hid (hold_any ca2 (o1.keep (b2.block g o1.lt (by omega))) hisb (.inr rfl) hwf)
  have K := hid (And.intro b1 b2)
  clear ca1 ca2 b1 b2 o1 cg1 hal HR x0 x1 x2 x3 x4 x5
  go_wp2_with fail
  rw [← hw2]
  refine Calls.mono HH.out ?_
  rintro q w3 ⟨rfl, ca3, b3, o3⟩
  have HC := hid (Clone_any ⟨g, 0, none⟩ 512 cp zs w3 (by omega) (o3.rd hisb))
  have K3 := hid (And.intro ca3 b3)
  clear ca3 b3 o3 HH
  go_wp2_with fail
  refine Calls.mono HC.out ?_
  rintro q w4 ⟨g', cap', rfl, g4, o4, b4⟩
  have FIN : Hid (w.heap.size ≤ g' ∧ Own w4 g' 512 cap' zs ∧ (∃ X' Y', CD X' Y' w4 c p room hi (mi + 1) (holdL room l x zs) img puts fu off nb ∧ Grown X Y X' Y' w) ∧ But (fun k => X k ∨ Y k) w w4) := by
    have s3 := K3.out.2.size
    have hdj := H.out.dj
    refine ⟨by omega, o4, ⟨fun k => X k ∧ k < w.heap.size, _, ⟨K3.out.1.keep (fun k _ hk => b4.block k hk), ((((H.out.dk.cut.below K.out.1).but K.out.2 (fun k q q' => hdj c hYc (by rw [← q']; exact q.1))).but K3.out.2 (fun k q q' => ?_)).below b4), fun k q q' => ?_⟩, fun k hk => ⟨fun q => q.1, fun q => ?_⟩⟩, ?_⟩
    · rcases q' with ⟨q1, q2⟩ | q1
      · exact hdj k q1 q.1
      · omega
    · rcases q with (⟨q1, q2⟩ | q1) | q1
      · exact hdj k q1 q'.1
      · omega
      · omega
    · rcases q with (⟨q1, q2⟩ | q1) | q1
      · exact q1
      · omega
      · omega
    · have e1 : But (fun k => X k ∨ Y k) w w2 := (But.of_below K.out.1).comp K.out.2 (fun k _ q => .inr (by rw [q]; exact hYc))
      exact (e1.comp K3.out.2 (fun k hk q => by
        rcases q with ⟨q1, q2⟩ | q1
        · exact .inr q1
        · omega)).trans (But.of_below b4)
  clear o4 b4 HC K K3 H
  go_wp2
  go_ret2
  exact ⟨g', cap', rfl, FIN.out.1, FIN.out.2.1, FIN.out.2.2.1, FIN.out.2.2.2⟩

end Go.Proofs.Ytfadnmdmohabmaa

/-
  Package cache: Read that is refused; Read of any block.
-/
namespace Go.Proofs.Ytfadnmdmohabmaa
open Go.RowKit Go.ChangeMaps

theorem CD.below {X Y : Nat → Prop} {w w' : World} {c p room : Nat} {hi mi : Int} {l : List (Int × List Int)} {img : List Int} {puts : List (Nat × List Int)} {fu : Int} {off : Bool} {nb : Nat} (h : CD X Y w c p room hi mi l img puts fu off nb) (b : Below w.heap.size w w') : ∃ X' Y', CD X' Y' w' c p room hi mi l img puts fu off nb ∧ Grown X Y X' Y' w :=
  ⟨_, _, ⟨h.ca.cut.keep (fun k _ hk => b.block k hk), h.dk.cut.below b, fun k q q' => h.dj k q.1 q'.1⟩, fun _ _ => ⟨fun q => q.1, fun q => q.1⟩⟩
set_option maxRecDepth 100000 in
set_option maxHeartbeats 4000000 in
theorem CRead_bad {X Y : Nat → Prop} {w : World} {c p room : Nat} {hi mi : Int} {l : List (Int × List Int)} {img : List Int} {puts : List (Nat × List Int)} {fu : Int} {off : Bool} {nb : Nat} (h : CD X Y w c p room hi mi l img puts fu off nb) (hl : puts.length ≤ 1073741824) {x : Int} (hwf : (Lit.int .i64 x).wf = true) (hx : ∀ q ∈ l, q.1 ≠ x) (hz : (readR img puts off nb x).1 ≠ 0) :
    Calls Try.prog 12 #[.pointer (some ⟨c, 0, none⟩), .int .i64 x] w fun q w' => q = .returned (.tuple #[.slice none 0 0, .int .i64 (readR img puts off nb x).1]) ∧ Below w.heap.size w w' := by
  have HR := hid (Read_any h.dk x hl)
  generalize (readR img puts off nb x).2 = zs at *
  generalize (readR img puts off nb x).1 = cd at *
  obtain ⟨r, mp, n, es, f, Z, h1, hlv, _⟩ := h.ca
  obtain ⟨D, hm, hBM⟩ := h1.map
  have hkey : keyOf Try.prog 3 (.int .i64 x) = some (.int .i64 x) := Maps.keyOf_int_mk Try.underlying3 hwf
  have hhas := hBM.miss x (fun e he => hx ((f e).at_, Z e) (by rw [hlv]; unfold view; exact List.mem_map.2 ⟨e, he, rfl⟩))
  obtain ⟨x0, x1, x2, x3, x4, x5⟩ := h1.blk.cells
  clear h hBM h1 hx hlv
  go_enter Try.func12, Try.ntmps12
  go_wp2_with (at_lookup; refine wpList_lookup_own_ok _ rfl _ _ 55 rfl 3 54 law3 Try.underlying55 ptrElem (zero45 _) .nil [] rfl mp n D rfl hm _ _ rfl hkey ?_; intro v ps hv; clear hv; rw [hhas])
  refine Calls.mono HR.out ?_
  rintro q w1 ⟨al, cp, rfl, hal, b1⟩
  have FIN := hid b1
  clear b1 hal HR
  go_wp2
  go_ret2
  exact ⟨rfl, FIN.out⟩
set_option maxRecDepth 100000 in
set_option maxHeartbeats 4000000 in
theorem CRead_off {X Y : Nat → Prop} {w : World} {c p room r mp n : Nat} {hi mi : Int} {es : List Nat} {e : Nat} {f : Nat → En} {Z : Nat → List Int} {img : List Int} {puts : List (Nat × List Int)} {fu : Int} {nb : Nat} (h : Ca Y w c p room r mp n hi mi es f Z) (he : e ∈ es) (hD : Dk X w p img puts fu true nb) (hl : puts.length ≤ 1073741824) (hat : (Lit.int .i64 (f e).at_).wf = true) :
    Calls Try.prog 12 #[.pointer (some ⟨c, 0, none⟩), .int .i64 (f e).at_] w fun q w' => q = .returned (.tuple #[.slice none 0 0, .int .i64 24]) ∧ Below w.heap.size w w' := by
  obtain ⟨D, hm, hBM⟩ := h.map
  have hkey : keyOf Try.prog 3 (.int .i64 (f e).at_) = some (.int .i64 (f e).at_) := Maps.keyOf_int_mk Try.underlying3 hat
  obtain ⟨hhas, hatk⟩ := hBM.hit e he
  obtain ⟨x0, x1, x2, x3, x4, x5⟩ := h.blk.cells
  have HO := hid (On_any hD)
  have hcl := h.blk.lt
  have H := hid hD
  generalize hxx : (f e).at_ = x at *
  clear h hBM hD
  go_enter Try.func12, Try.ntmps12
  go_wp2_with (at_lookup; refine wpList_lookup_own_ok _ rfl _ _ 55 rfl 3 54 law3 Try.underlying55 ptrElem (zero45 _) .nil [] rfl mp n D rfl hm _ _ rfl hkey ?_; intro v ps hv; rw [hatk .nil] at hv; obtain rfl := ptrElem_inv hv; rw [hhas])
  refine Calls.mono HO.out ?_
  rintro q w1 ⟨rfl, b1⟩
  have HR := hid (Read_any (H.out.below b1) x hl)
  have hrr : readR img puts true nb x = (24, []) := rfl
  rw [hrr] at HR
  have y0 : w1.cell? ⟨c, 0, none⟩ = some (.pointer (some ⟨p, 0, none⟩)) := (World.cell?_of_block (w := w) (b1.block c hcl)).trans x0
  have K := hid b1
  clear b1
  go_wp2_with fail
  refine Calls.mono HR.out ?_
  rintro q w2 ⟨al, cp, rfl, hal, b2⟩
  have FIN := hid (K.out.trans (b2.mono K.out.size))
  clear b2 hal HR K
  go_wp2
  go_ret2
  exact ⟨rfl, FIN.out⟩

end Go.Proofs.Ytfadnmdmohabmaa
