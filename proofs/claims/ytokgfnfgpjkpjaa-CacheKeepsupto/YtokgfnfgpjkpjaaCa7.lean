/-
  Package cache: New, Counts, Forget, Flush.
-/
import Derived.Test.YtokgfnfgpjkpjaaCa6
namespace Go.Proofs.Ytokgfnfgpjkpjaa
open Go.RowKit Go.ChangeMaps

theorem Ca.keep {X : Nat → Prop} {w w' : World} {c p room r mp n : Nat} {hi mi : Int} {es : List Nat} {f : Nat → En} {Z : Nat → List Int} (h : Ca X w c p room r mp n hi mi es f Z) (hk : ∀ k, X k → k < w.heap.size → w'.heap[k]? = w.heap[k]?) : Ca X w' c p room r mp n hi mi es f Z := by
  obtain ⟨D, hm, hD⟩ := h.map
  refine ⟨(hk c h.xc h.blk.lt).trans h.blk, fun x hx => (hk x (h.xe x hx) (h.ens x hx).lt).trans (h.ens x hx), h.ring, ⟨D, ownsMap_keep hm (hk mp h.xm (ownsMap_lt hm)), hD⟩, fun e he => ?_, h.xc, h.xm, h.xe⟩
  obtain ⟨g, cap, q1, q2, q3, q4⟩ := h.dat e he
  exact ⟨g, cap, q1, q2.keep (hk g q4 q2.lt), q3, q4⟩
theorem Cst.keep {X : Nat → Prop} {w w' : World} {c p room : Nat} {hi mi : Int} {l : List (Int × List Int)} (h : Cst X w c p room hi mi l) (hk : ∀ k, X k → k < w.heap.size → w'.heap[k]? = w.heap[k]?) : Cst X w' c p room hi mi l := by
  obtain ⟨r, mp, n, es, f, Z, h1, h2⟩ := h
  exact ⟨r, mp, n, es, f, Z, h1.keep hk, h2⟩
theorem Cst.but {X Y : Nat → Prop} {w w' : World} {c p room : Nat} {hi mi : Int} {l : List (Int × List Int)} (h : Cst X w c p room hi mi l) (b : But Y w w') (hxy : ∀ k, X k → ¬ Y k) : Cst X w' c p room hi mi l := h.keep (fun k hx hk => b.block k hk (hxy k hx))
theorem Cst.cut {X : Nat → Prop} {w : World} {c p room : Nat} {hi mi : Int} {l : List (Int × List Int)} (h : Cst X w c p room hi mi l) : Cst (fun k => X k ∧ k < w.heap.size) w c p room hi mi l := h.mono (fun _ hk hx => ⟨hx, hk⟩)
theorem Cst.cg {X : Nat → Prop} {w : World} {c p room : Nat} {hi mi : Int} {l : List (Int × List Int)} (h : Cst X w c p room hi mi l) : ∃ v2 v3, Cg w c p room v2 v3 hi mi ∧ X c ∧ 1 ≤ room ∧ room < 4611686018427387904 := by
  obtain ⟨r, mp, n, es, f, Z, h1, _, _, h4, h5, _⟩ := h
  exact ⟨_, _, h1.blk, h1.xc, h4, h5⟩

theorem Counts_any {X : Nat → Prop} {w : World} {c p room : Nat} {hi mi : Int} {l : List (Int × List Int)} (h : Cst X w c p room hi mi l) :
    Calls Try.prog 12 #[.pointer (some ⟨c, 0, none⟩)] w fun q w' => q = .returned (.tuple #[.int .i64 hi, .int .i64 mi, .int .i64 0]) ∧ w' = w.drew := by
  obtain ⟨v2, v3, hg, _⟩ := h.cg
  have c4 : w.cell? ⟨c, 4, none⟩ = some (.int .i64 hi) := hg.cell 4
  have c5 : w.cell? ⟨c, 5, none⟩ = some (.int .i64 mi) := hg.cell 5
  clear h hg
  go_enter Try.func12, Try.ntmps12
  go_wp2
  go_region
  all_goals go_wp2
  all_goals
    go_ret3
    exact ⟨rfl, rfl⟩
theorem Forget_any {X : Nat → Prop} {w : World} {c p room : Nat} {hi mi : Int} {l : List (Int × List Int)} (h : Cst X w c p room hi mi l) :
    Calls Try.prog 16 #[.pointer (some ⟨c, 0, none⟩)] w fun q w' => q = .returned (.int .i64 0) ∧ Cst (fun k => k = c ∨ w.heap.size ≤ k) w' c p room hi mi [] ∧ But (fun k => k = c) w w' := by
  obtain ⟨v2, v3, hg, _, hr, hr2⟩ := h.cg
  have HN := hid (holdNothing_any hg hr hr2)
  clear h hg
  go_enter Try.func16, Try.ntmps16
  go_wp2_with fail
  refine Calls.mono HN.out ?_
  rintro q w1 ⟨rfl, h1, b1⟩
  have FIN := hid (And.intro h1 b1)
  clear h1 b1 HN
  go_wp2
  go_ret
  exact ⟨rfl, FIN.out.1, FIN.out.2⟩
theorem Flush_disk {w : World} {c p room : Nat} {v2 v3 : Value} {hi mi : Int} (h : Cg w c p room v2 v3 hi mi) {R : Int → World → Prop} (H : Calls Try.prog 36 #[.pointer (some ⟨p, 0, none⟩)] w fun e w' => ∃ x, e = .returned (.int .i64 x) ∧ R x w') :
    Calls Try.prog 35 #[.pointer (some ⟨c, 0, none⟩)] w fun e w' => ∃ x, e = .returned (.int .i64 x) ∧ R x w' := by
  have c0 : w.cell? ⟨c, 0, none⟩ = some (.pointer (some ⟨p, 0, none⟩)) := h.cell 0
  have HF := hid H
  clear h H
  go_enter Try.func35, Try.ntmps35
  go_wp2_with fail
  refine Calls.mono HF.out ?_
  rintro q w1 ⟨x, rfl, h1⟩
  have FIN := hid h1
  clear h1 HF
  go_wp2
  go_ret
  exact ⟨x, rfl, FIN.out⟩
set_option maxRecDepth 100000 in
set_option maxHeartbeats 1000000 in
theorem CNew_ok {w : World} (p room : Nat) (lo : 1 ≤ room) (hi : room ≤ 4096) :
    Calls Try.prog 25 #[.pointer (some ⟨p, 0, none⟩), .int .i64 (room : Int)] w fun q w' => ∃ c, q = .returned (.tuple #[.pointer (some ⟨c, 0, none⟩), .int .i64 0]) ∧ w.heap.size ≤ c ∧ Cst (fun k => w.heap.size ≤ k) w' c p room 0 0 [] ∧ Below w.heap.size w w' := by
  obtain ⟨w1, hw1⟩ : ∃ w1, w1 = w.alloc (.cells #[.pointer (some ⟨p, 0, none⟩), .int .i64 (room : Int), .pointer none, .map none, .int .i64 0, .int .i64 0] 48) := ⟨_, rfl⟩
  have g1 : Cg w1 w.heap.size p room (.pointer none) (.map none) 0 0 := by
    rw [hw1]
    show (w.heap.push _)[w.heap.size]? = _
    simp
  have b1 : Below w.heap.size w w1 := by rw [hw1]; exact (Below.refl _ _).alloc (Nat.le_refl _) _
  have z1 : w1.heap.size = w.heap.size + 1 := by rw [hw1]; simp
  have HN := hid (holdNothing_any g1 lo (by omega))
  clear g1
  have n0 : ¬ ((room : Int) < 1) := by omega
  have n1 : ¬ ((4096 : Int) < (room : Int)) := by omega
  go_enter Try.func25, Try.ntmps25
  go_wp2_with fail
  rw [← hw1]
  refine Calls.mono HN.out ?_
  rintro q w2 ⟨rfl, h2, b2⟩
  have FIN := hid (And.intro (h2.mono (Y := fun k => w.heap.size ≤ k) (fun k _ q => by rcases q with q | q <;> omega)) (b1.trans ((b2.below (B := w.heap.size) (by omega) (fun k hk q => by omega)))))
  clear h2 b2 HN b1 z1
  go_wp2
  go_ret2
  exact ⟨_, rfl, Nat.le_refl _, FIN.out.1, FIN.out.2⟩

end Go.Proofs.Ytokgfnfgpjkpjaa
