/-
  Package cache: Read of a block that is held.
-/
import Derived.Test.YtokgfnfgpjkpjaaCa9
namespace Go.Proofs.Ytokgfnfgpjkpjaa
open Go.RowKit Go.ChangeMaps

set_option maxRecDepth 100000 in
set_option maxHeartbeats 4000000 in
theorem CRead_hit {X Y : Nat → Prop} {w : World} {c p room r mp n : Nat} {hi mi : Int} {A B : List Nat} {e : Nat} {f : Nat → En} {Z : Nat → List Int} {img : List Int} {puts : List (Nat × List Int)} {fu : Int} {nb : Nat} (h : Ca Y w c p room r mp n hi mi (A ++ e :: B) f Z) (hD : Dk X w p img puts fu false nb) (hhi : 0 ≤ hi ∧ hi < 4611686018427387904) (hat : (Lit.int .i64 (f e).at_).wf = true) :
    Calls Try.prog 8 #[.pointer (some ⟨c, 0, none⟩), .int .i64 (f e).at_] w fun q w' => ∃ g cap, q = .returned (.tuple #[.slice (some ⟨g, 0, none⟩) 512 cap, .int .i64 0]) ∧ w.heap.size ≤ g ∧ Own w' g 512 cap (Z e) ∧ (∃ f', Ca Y w' c p room r mp n (hi + 1) mi (A ++ B ++ [e]) f' Z ∧ ∀ y, (f' y).at_ = (f y).at_) ∧ But Y w w' := by
  obtain ⟨D, hm, hBM⟩ := h.map
  have hkey : keyOf Try.prog 3 (.int .i64 (f e).at_) = some (.int .i64 (f e).at_) := Maps.keyOf_int_mk Try.underlying3 hat
  obtain ⟨hhas, hatk⟩ := hBM.hit e (by simp)
  obtain ⟨x0, x1, x2, x3, x4, x5⟩ := h.blk.cells
  have HO := hid (On_any hD)
  have hcl := h.blk.lt
  have H := hid h
  generalize hxx : (f e).at_ = x at *
  clear h hBM hD
  go_enter Try.func8, Try.ntmps8
  go_wp2_with (at_lookup; refine wpList_lookup_own_ok _ rfl _ _ 46 rfl 3 45 law3 Try.underlying46 ptrElem (zero45 _) .nil [] rfl mp n D rfl hm _ _ rfl hkey ?_; intro v ps hv; rw [hatk .nil] at hv; obtain rfl := ptrElem_inv hv; rw [hhas])
  refine Calls.mono HO.out ?_
  rintro q w1 ⟨rfl, b1⟩
  have h1 : Ca Y w1 c p room r mp n hi mi (A ++ e :: B) f Z := H.out.keep (fun k _ hk => b1.block k hk)
  obtain ⟨y0, y1, y2, y3, y4, y5⟩ := h1.blk.cells
  have f4 : w1.frozen? ⟨c, 4, none⟩ = false := h1.blk.frozen 4
  obtain ⟨w2, hw2⟩ : ∃ w2, w2 = w1.setCell ⟨c, 4, none⟩ (.int .i64 (hi + 1)) := ⟨_, rfl⟩
  have h2 : Ca Y w2 c p room r mp n (hi + 1) mi (A ++ e :: B) f Z := by rw [hw2]; exact h1.addHit (hi + 1)
  have b2 : But Y w1 w2 := by rw [hw2]; exact (But.refl Y w1).setCell (p := ⟨c, 4, none⟩) h1.xc _
  have HL := hid h2.latest
  have K := hid (And.intro b1 b2)
  clear h1 h2 b1 b2
  go_wp2_with fail
  rw [← hw2]
  refine Calls.mono HL.out ?_
  rintro q w3 ⟨rfl, h3, b3⟩
  obtain ⟨g, cap, q1, q2, q3, q4⟩ := h3.dat e (by simp)
  have z1 := (h3.ens e (by simp)).cells.2.1
  rw [q1] at z1
  have HC := hid (Clone_any ⟨g, 0, none⟩ 512 cap (Z e) w3 (by omega) (q2.rd q3))
  have K3 := hid (And.intro h3 b3)
  clear h3 b3 q1 q2 q3 q4 HL
  go_wp2_with fail
  refine Calls.mono HC.out ?_
  rintro q w4 ⟨g', cap', rfl, g4, o4, b4⟩
  have FIN : Hid (w.heap.size ≤ g' ∧ Own w4 g' 512 cap' (Z e) ∧ (∃ f', Ca Y w4 c p room r mp n (hi + 1) mi (A ++ B ++ [e]) f' Z ∧ ∀ y, (f' y).at_ = (f y).at_) ∧ But Y w w4) := by
    have s1 := K.out.1.size
    have s2 := K.out.2.size
    have s3 := K3.out.2.size
    exact ⟨by omega, o4, ⟨_, K3.out.1.keep (fun k _ hk => b4.block k hk), fun y => by rw [(lnk_same _ _ _ _).1, (unl_same _ _ _).1]⟩, ((But.of_below K.out.1).trans K.out.2).trans (K3.out.2.trans (But.of_below b4))⟩
  clear o4 b4 HC K K3 H HO
  go_wp2
  go_ret2
  exact ⟨g', cap', rfl, FIN.out.1, FIN.out.2.1, FIN.out.2.2.1, FIN.out.2.2.2⟩

end Go.Proofs.Ytokgfnfgpjkpjaa
