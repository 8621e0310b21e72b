/-
  CacheReads, CacheBounds, CacheKeeps: within.
-/
import Derived.Test.YtokgfnfgpjkpjaaCb4
namespace Go.Proofs.Ytokgfnfgpjkpjaa
open Go.RowKit

/-- any number as one from lo to hi -/
def inN (lo hi : Nat) (x : Int) : Nat := lo + into (hi + 1 - lo) x
theorem inN_lo (lo hi : Nat) (x : Int) : lo ≤ inN lo hi x := by unfold inN; omega
theorem inN_hi {lo hi : Nat} (x : Int) (h : lo ≤ hi) : inN lo hi x ≤ hi := by have := into_lt (m := hi + 1 - lo) x (by omega); unfold inN; omega
theorem within_any (x : Int) (lo hi : Nat) (h : lo ≤ hi) (hh : hi ≤ 1000000) (w : World) : Calls Try.prog 6 #[.int .i64 x, .int .i64 (lo : Int), .int .i64 (hi : Int)] w fun q w' => q = .returned (.int .i64 (inN lo hi x : Int)) ∧ w' = w := by
  have e0 : (hi : Int) - (lo : Int) + 1 = ((hi + 1 - lo : Nat) : Int) := by omega
  have e1 := into_eq (hi + 1 - lo) x
  have e2 := into_lt (m := hi + 1 - lo) x (by omega)
  have e3 : (inN lo hi x : Int) = (lo : Int) + (into (hi + 1 - lo) x : Int) := by unfold inN; omega
  rw [e3]
  generalize into (hi + 1 - lo) x = z at *
  generalize hM : hi + 1 - lo = M at *
  have p1 := and62_pos x
  go_enter Try.func6, Try.ntmps6
  go_wp2
  go_ret
  exact ⟨rfl, rfl⟩
theorem results_tmp4 {fn : Func} {t u v x : Tmp} (h : fn.results = #[.tmp t, .tmp u, .tmp v, .tmp x]) (tmps : Array Value) (P : Program) (w : World) :
    (results fn tmps).run P w = .ok (.tuple #[tmps.getD t undef, tmps.getD u undef, tmps.getD v undef, tmps.getD x undef]) w := by
  simp [results, h]
/-- two disks, and a cache on the first -/
structure Trio (X Y X2 : Nat → Prop) (w : World) (c p p2 room : Nat) (hi mi : Int) (l : List (Int × List Int)) (img : List Int) (puts : List (Nat × List Int)) (fu : Int) (off : Bool) (nb : Nat) : Prop where
  cd : CD X Y w c p room hi mi l img puts fu off nb
  d2 : Dk X2 w p2 img puts fu off nb
  dx : ∀ k, X2 k → ¬ X k ∧ ¬ Y k
set_option maxRecDepth 100000 in
set_option maxHeartbeats 1000000 in
theorem pair_any (nb room : Nat) (lo : 1 ≤ nb) (hi : nb ≤ 524288) (rlo : 1 ≤ room) (rhi : room ≤ 4096) (w : World) :
    Calls Try.prog 7 #[.int .i64 (nb : Int), .int .i64 (room : Int)] w fun q w' => ∃ p p2 c X Y X2, q = .returned (.tuple #[.pointer (some ⟨p, 0, none⟩), .pointer (some ⟨p2, 0, none⟩), .pointer (some ⟨c, 0, none⟩), .bool true]) ∧ Trio X Y X2 w' c p p2 room 0 0 [] (zeros (512 * nb)) [] (-1) false nb ∧ (∀ k, X k ∨ Y k ∨ X2 k → w.heap.size ≤ k) ∧ Below w.heap.size w w' := by
  have H1 := hid (New_ok nb w lo hi)
  go_enter Try.func7, Try.ntmps7
  go_wp2_with fail
  refine Calls.mono H1.out ?_
  rintro q w1 ⟨p, rfl, p1, d1, b1⟩
  have H2 := hid (New_ok nb w1 lo hi)
  have K1 := hid (And.intro d1 b1)
  clear d1 b1 H1
  go_wp2_with fail
  refine Calls.mono H2.out ?_
  rintro q w2 ⟨p2, rfl, p3, d2, b2⟩
  have H3 := hid (CNew_ok (w := w2) p room rlo rhi)
  have K2 := hid (And.intro d2 b2)
  clear d2 b2 H2
  go_wp2_with fail
  refine Calls.mono H3.out ?_
  rintro q w3 ⟨c, rfl, c1, c3, b3⟩
  have FIN : Hid (Trio (fun k => w.heap.size ≤ k ∧ k < w1.heap.size) (fun k => w2.heap.size ≤ k) (fun k => w1.heap.size ≤ k ∧ k < w2.heap.size) w3 c p p2 room 0 0 [] (zeros (512 * nb)) [] (-1) false nb ∧ (∀ k, ((w.heap.size ≤ k ∧ k < w1.heap.size) ∨ w2.heap.size ≤ k ∨ (w1.heap.size ≤ k ∧ k < w2.heap.size)) → w.heap.size ≤ k) ∧ Below w.heap.size w w3) := by
    have s1 := K1.out.2.size
    have s2 := K2.out.2.size
    exact ⟨⟨⟨c3, (K1.out.1.cut.below K2.out.2).below b3, fun k q q' => by omega⟩, K2.out.1.cut.below b3, fun k q => ⟨fun q' => by omega, fun q' => by omega⟩⟩, fun k q => by omega, K1.out.2.trans ((K2.out.2.trans (b3.mono s2)).mono s1)⟩
  clear c3 b3 H3 K1 K2
  go_wp2
  (try simp only [Exit.inBlock, Exit.then])
  refine bodyPost_ret (results_tmp4 rfl _ _ _) rfl ?_
  exact ⟨p, p2, c, _, _, _, rfl, FIN.out.1, FIN.out.2.1, FIN.out.2.2⟩

end Go.Proofs.Ytokgfnfgpjkpjaa
