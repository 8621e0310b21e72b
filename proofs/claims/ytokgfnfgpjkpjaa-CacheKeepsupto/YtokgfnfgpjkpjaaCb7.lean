/-
  CacheReads: alike, a Flush, Forget, Fuse.
-/
import Derived.Test.YtokgfnfgpjkpjaaCb6
namespace Go.Proofs.Ytokgfnfgpjkpjaa
open Go.RowKit

theorem CD.cg {X Y : Nat → Prop} {w : World} {c p room : Nat} {hi mi : Int} {l : List (Int × List Int)} {img : List Int} {puts : List (Nat × List Int)} {fu : Int} {off : Bool} {nb : Nat} (h : CD X Y w c p room hi mi l img puts fu off nb) : ∃ v2 v3, Cg w c p room v2 v3 hi mi ∧ Y c := by
  obtain ⟨v2, v3, h1, h2, _⟩ := h.ca.cg
  exact ⟨v2, v3, h1, h2⟩
/-- behind a call of its disk alone -/
theorem CD.disk {X Y : Nat → Prop} {w w' : World} {c p room : Nat} {hi mi : Int} {l : List (Int × List Int)} {img img' : List Int} {puts puts' : List (Nat × List Int)} {fu fu' : Int} {off off' : Bool} {nb : Nat} (h : CD X Y w c p room hi mi l img puts fu off nb) (d : Dk (fun k => X k ∨ w.heap.size ≤ k) w' p img' puts' fu' off' nb) (b : But X w w') : (∃ X' Y', CD X' Y' w' c p room hi mi l img' puts' fu' off' nb ∧ Grown X Y X' Y' w) ∧ But (fun k => X k ∨ Y k) w w' := by
  refine ⟨⟨_, _, ⟨h.ca.cut.but b (fun k q => h.dj k q.1), d, fun k q q' => ?_⟩, fun k hk => ⟨fun q => ?_, fun q => q.1⟩⟩, b.mono (fun k _ q => .inl q)⟩
  · rcases q' with q' | q'
    · exact h.dj k q.1 q'
    · omega
  · rcases q with q | q
    · exact q
    · omega
/-- behind an act on the cache and the same on the other disk -/
theorem Duo.of {B : Nat} {w0 w w1 w2 : World} {X Y X2 X' Y' : Nat → Prop} {c p p2 room nb m : Nat} {hi mi hi' mi' : Int} {l l' : List (Int × List Int)} {img img' : List Int} {puts puts' : List (Nat × List Int)} {fu fu' : Int} {off off' : Bool} (T : Trio X Y X2 w c p p2 room hi mi l img puts fu off nb) (h6 : ∀ k, X k ∨ Y k ∨ X2 k → B ≤ k) (h7 : B ≤ w.heap.size) (h8 : Below B w0 w)
    (cd1 : CD X' Y' w1 c p room hi' mi' l' img' puts' fu' off' nb) (g1 : Grown X Y X' Y' w) (b1 : But (fun k => X k ∨ Y k) w w1)
    (d2 : Dk (fun k => (X2 k ∧ k < w.heap.size) ∨ w1.heap.size ≤ k) w2 p2 img' puts' fu' off' nb) (b2 : But (fun k => X2 k ∧ k < w.heap.size) w1 w2)
    (hg : Good l' img' puts' nb) (hp : puts'.length ≤ m) (hh : 0 ≤ hi' ∧ hi' ≤ m) (hm : 0 ≤ mi' ∧ mi' ≤ m) : Duo B w0 w2 c p p2 room nb m := by
  have s1 := b1.size
  have s2 := b2.size
  have hx := (T.next cd1 g1 b1).2
  refine ⟨fun k => X' k ∧ k < w1.heap.size, fun k => Y' k ∧ k < w1.heap.size, _, hi', mi', l', img', puts', fu', off', ⟨⟨cd1.ca.cut.but b2 (fun k q q' => (hx k q').2 q.1), cd1.dk.cut.but b2 (fun k q q' => (hx k q').1 q.1), fun k q q' => cd1.dj k q.1 q'.1⟩, d2, fun k q => ?_⟩, hg, hp, hh, hm, fun k q => ?_, by omega, ?_⟩
  · rcases q with q | q
    · exact ⟨fun q' => (hx k q).1 q'.1, fun q' => (hx k q).2 q'.1⟩
    · exact ⟨fun q' => by omega, fun q' => by omega⟩
  · by_cases hk : k < w.heap.size
    · rcases q with q | q | q | q
      · exact h6 k (.inl ((g1 k hk).1 q.1))
      · exact h6 k (.inr (.inl ((g1 k hk).2 q.1)))
      · exact h6 k (.inr (.inr q.1))
      · omega
    · omega
  · exact h8.trans ((b1.below h7 (fun k hk q => by
      rcases q with q | q
      · have := h6 k (.inl q); omega
      · have := h6 k (.inr (.inl q)); omega)).trans (b2.below (by omega) (fun k hk q => by have := h6 k (.inr (.inr q.1)); omega)))
set_option maxRecDepth 100000 in
set_option maxHeartbeats 4000000 in
theorem alike0 {B : Nat} {w0 w : World} {c p p2 room nb m : Nat} (h : Duo B w0 w c p p2 room nb m) (wh kd at_ fi : Int) (ra : Value) (k1 : kd ≠ 1) (k2 : kd ≠ 2) (k3 : kd ≠ 3) (k6 : kd ≠ 6) (k8 : kd ≠ 8) :
    Calls Try.prog 19 #[.pointer (some ⟨c, 0, none⟩), .pointer (some ⟨p2, 0, none⟩), cactV wh kd at_ fi ra] w fun q w' => q = .returned (.bool true) ∧ Duo B w0 w' c p p2 room nb (m + 1) := by
  unfold cactV
  have FIN := hid (h.more.below (w' := w.alloc (.cells #[.int .i64 wh, .int .i64 kd, .int .i64 at_, .int .i64 fi, ra] 42)) ((Below.refl _ _).alloc (Nat.le_refl _) _))
  clear h
  go_enter Try.func19, Try.ntmps19
  go_wp2
  go_ret
  exact ⟨rfl, FIN.out⟩
set_option maxRecDepth 100000 in
set_option maxHeartbeats 4000000 in
theorem alike6 {B : Nat} {w0 w : World} {c p p2 room nb m : Nat} (h : Duo B w0 w c p p2 room nb m) (wh at_ fi : Int) (ra : Value) :
    Calls Try.prog 19 #[.pointer (some ⟨c, 0, none⟩), .pointer (some ⟨p2, 0, none⟩), cactV wh 6 at_ fi ra] w fun q w' => q = .returned (.bool true) ∧ Duo B w0 w' c p p2 room nb (m + 1) := by
  unfold cactV
  obtain ⟨W, hW⟩ : ∃ W, W = w.alloc (.cells #[.int .i64 wh, .int .i64 6, .int .i64 at_, .int .i64 fi, ra] 42) := ⟨_, rfl⟩
  have bW : Below w.heap.size w W := by rw [hW]; exact (Below.refl _ _).alloc (Nat.le_refl _) _
  obtain ⟨X, Y, X2, hi, mi, l, img, puts, fu, off, h1, h2, h3, h4, h5, h6, h7, h8⟩ := h.below bW
  have HF := hid (Forget_any h1.cd.ca)
  have FIN : Hid (∀ w1, Cst (fun k => k = c ∨ W.heap.size ≤ k) w1 c p room hi mi [] → But (fun k => k = c) W w1 → Duo B w0 w1 c p p2 room nb (m + 1)) := fun w1 c1 b1 => by
    obtain ⟨_, _, _, hYc⟩ := h1.cd.cg
    have hcB := h6 c (.inr (.inl hYc))
    refine ⟨fun k => X k ∧ k < W.heap.size, _, fun k => X2 k ∧ k < W.heap.size, hi, mi, [], img, puts, fu, off, ⟨⟨c1, h1.cd.dk.cut.but b1 (fun k q q' => h1.cd.dj c hYc (by rw [← q']; exact q.1)), fun k q q' => ?_⟩, h1.d2.cut.but b1 (fun k q q' => (h1.dx k q.1).2 (by rw [q']; exact hYc)), fun k q => ⟨fun q' => (h1.dx k q.1).1 q'.1, fun q' => ?_⟩⟩, Good.nil _ _ _, by omega, by omega, by omega, fun k q => ?_, by have := b1.size; omega, h8.trans (b1.below h7 (fun k hk q => by omega))⟩
    · rcases q with q | q
      · exact h1.cd.dj c hYc (by rw [← q]; exact q'.1)
      · omega
    · rcases q' with q' | q'
      · exact (h1.dx k q.1).2 (by rw [q']; exact hYc)
      · omega
    · rcases q with q | (q | q) | q
      · exact h6 k (.inl q.1)
      · omega
      · omega
      · exact h6 k (.inr (.inr q.1))
  clear h1 h2 h6 h8 bW
  go_enter Try.func19, Try.ntmps19
  go_wp2_with fail
  rw [← hW]
  refine Calls.mono HF.out ?_
  rintro q w1 ⟨rfl, c1, b1⟩
  have F := hid (FIN.out w1 c1 b1)
  clear c1 b1 HF FIN
  go_wp2
  go_ret
  exact ⟨rfl, F.out⟩

end Go.Proofs.Ytokgfnfgpjkpjaa
