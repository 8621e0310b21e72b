/-
  A desk: act (function 12): Read.
-/
import Derived.Test.YteokekllbpkemaaAc0
namespace Go.Proofs.Yteokekllbpkemaa
open Go.RowKit

theorem below_dr {B : Nat} {a w : World} (h : Below B a w) : Below B a w.drew := ⟨h.os, h.tape, h.output, h.size, h.block⟩
theorem isB_seen {img : List Int} {puts : List (Nat × List Int)} (h1 : Pl.isB img) (h2 : ∀ q ∈ puts, Pl.isB q.2) (x : Nat) : Pl.isB (seenZ img puts x) := by
  unfold seenZ
  have h0 : Pl.isB ((img.drop (512 * x)).take 512) := Pl.isB_take (Pl.isB_drop h1 _) _
  revert h0
  generalize (img.drop (512 * x)).take 512 = s
  induction puts generalizing s with
  | nil => exact id
  | cons q r ih =>
    intro hs
    refine ih (fun q hq => h2 q (List.mem_cons_of_mem _ hq)) _ ?_
    show Pl.isB (if q.1 = x then q.2 else s)
    split
    · exact h2 q (List.mem_cons_self ..)
    · exact hs
theorem isB_readR {img : List Int} {puts : List (Nat × List Int)} (h1 : Pl.isB img) (h2 : ∀ q ∈ puts, Pl.isB q.2) (off : Bool) (nb : Nat) (x : Int) : Pl.isB (readR img puts off nb x).2 := by
  unfold readR
  split
  · exact Pl.isB_nil
  · split
    · exact Pl.isB_nil
    · exact isB_seen h1 h2 _
theorem Dk.lens {X : Nat → Prop} {w : World} {p : Nat} {img : List Int} {puts : List (Nat × List Int)} {fu : Int} {off : Bool} {nb : Nat} (h : Dk X w p img puts fu off nb) : ∀ q ∈ puts, q.2.length ≤ 512 := by
  obtain ⟨ds, gL, cL, pv, mp, e, h⟩ := h
  intro q hq
  rw [← e] at hq
  obtain ⟨d, hd, rfl⟩ := List.mem_map.1 hq
  exact Nat.le_of_eq (h.dat d hd).1.len
theorem len_readR {img : List Int} {puts : List (Nat × List Int)} (h2 : ∀ q ∈ puts, q.2.length ≤ 512) (off : Bool) (nb : Nat) (x : Int) : (readR img puts off nb x).2.length ≤ 268435456 := by
  have key : ∀ y, (seenZ img puts y).length ≤ 512 := by
    intro y
    unfold seenZ
    have h0 : ((img.drop (512 * y)).take 512).length ≤ 512 := by simp; omega
    revert h0
    generalize (img.drop (512 * y)).take 512 = s
    induction puts generalizing s with
    | nil => exact id
    | cons q r ih =>
      intro hs
      refine ih (fun q hq => h2 q (List.mem_cons_of_mem _ hq)) _ ?_
      show (if q.1 = y then q.2 else s).length ≤ 512
      split
      · exact h2 q (List.mem_cons_self ..)
      · exact hs
  unfold readR
  split
  · simp
  · split
    · simp
    · have := key x.toNat
      show (seenZ img puts x.toNat).length ≤ 268435456
      omega
set_option maxRecDepth 100000 in
set_option maxHeartbeats 4000000 in
theorem act1 {t : Nat} {κ : Nat → Nat} {w : World} {x m p r : Nat} {bv kv : Value} {img : List Int} {puts : List (Nat × List Int)} {fu : Int} {off : Bool} {nb : Nat} (h : DskW t κ w x m p r bv kv img puts fu off nb) (hm2 : m ≤ 1073741823) (wh at_ fi : Int) (ra ke : Value) :
    Calls Try.prog 12 #[.pointer (some ⟨x, 0, none⟩), actV wh 1 at_ fi ra ke] w (ActR t κ w x (m + 1)) := by
  unfold actV
  obtain ⟨W, hW⟩ : ∃ W, W = w.alloc (.cells #[.int .i64 wh, .int .i64 1, .int .i64 at_, .int .i64 fi, ra, ke] 44) := ⟨_, rfl⟩
  obtain ⟨hb, hd, hx, hA, c0, c1, ck, c2, c3, c4, c5⟩ := h.ready hW
  refine Calls.mono (?_ : Calls Try.prog 12 _ w (ActR t (cutK κ w.heap.size) W x (m + 1))) (fun e w' q => ActR.shift hb q)
  have hlen := hd.len
  have HR1 := hid (Read_any (w := W.drew) (hd.dk.keep (w' := W.drew) (fun _ _ _ => rfl)) at_ (by omega))
  have Hd := hid hd
  have HQ1 : Hid (∀ w1, Below W.heap.size W w1 → Calls Try.prog 30 #[.pointer (some ⟨r, 0, none⟩), .int .i64 at_] w1.drew fun e w' => e = .returned (.tuple #[.string (strOfNums (readR img puts off nb at_).2), .int .i64 (readR img puts off nb at_).1]) ∧ w' = w1.drew) := fun w1 hb1 => refRead_any (w := w1.drew) ((hd.rk.below hb1).keep (w' := w1.drew) (fun _ _ _ => rfl)) at_ (by omega)
  have HZ : Hid (Pl.isB (readR img puts off nb at_).2) := isB_readR hd.dk.facts.1 hd.dk.facts.2.2.1 off nb at_
  have HZl : Hid ((readR img puts off nb at_).2.length ≤ 268435456) := len_readR hd.dk.lens off nb at_
  generalize (readR img puts off nb at_).2 = Z at *
  generalize (readR img puts off nb at_).1 = C at *
  have d1 := hW ▸ c1
  have HW := hid hW
  have HC := hid (And.intro c0 (And.intro c1 c2))
  clear hd h c3 c4 c5 hb hW c0 c1 c2 ck
  go_enter Try.func12, Try.ntmps12
  go_wp2_with fail
  rw [← HW.out]
  clear d1
  obtain ⟨c0, c1, c2⟩ := HC.out
  go_region_held3 (fun w' => w'.cell? ⟨x, 0, none⟩ = some (.pointer (some ⟨p, 0, none⟩)) ∧ w'.cell? ⟨w.heap.size, 2, none⟩ = some (.int .i64 at_)) (first | exact ⟨by assumption, by assumption⟩ | go_keep)
    ((go_at_call 29; refine Calls.mono HR1.out ?_; rintro e w1 ⟨al, cc, rfl, hal, hb1⟩
      have Hb1 := hid (undrew hb1)
      have Hal := hid hal
      have j0 := (Hb1.out.cell (p := ⟨x, 0, none⟩) hx).trans c0
      have j1 := (Hb1.out.cell (p := ⟨x, 1, none⟩) hx).trans c1
      have j2 := (Hb1.out.cell (p := ⟨w.heap.size, 2, none⟩) hA).trans c2
      clear hal hb1))
  have HQ2 := hid (HQ1.out w1 Hb1.out)
  clear c0 c1 c2 j0 HR1 HQ1
  go_wp2_with fail
  go_region_held3 (fun w' => w'.cell? ⟨x, 1, none⟩ = some (.pointer (some ⟨r, 0, none⟩)) ∧ w'.cell? ⟨w.heap.size, 2, none⟩ = some (.int .i64 at_)) (first | exact ⟨by assumption, by assumption⟩ | go_keep)
    ((go_at_call 30; refine Calls.mono HQ2.out ?_; rintro e w2 ⟨rfl, rfl⟩))
  clear j1 j2 HQ2
  have hZ1 : Rd w1.heap.size w1 al Z.length Z := by
    rcases Hal.out with ⟨rfl, rfl, rfl⟩ | ⟨g, rfl, _, hO⟩
    · exact ⟨rfl, Pl.isB_nil, .inl rfl⟩
    · exact hO.rd HZ.out
  have e1 : ∀ q, (convert 22 9 (.slice al Z.length cc)).run Try.prog (w1.drewN q) = .ok (.string (strOfNums Z)) (w1.drewN q) := fun q => conv_str (w := w1.drewN q) (B := w1.heap.size) hZ1 cc
  have e2 : (convert 22 9 (.slice al Z.length cc)).run Try.prog w1.drew = .ok (.string (strOfNums Z)) w1.drew := conv_str (w := w1.drew) (B := w1.heap.size) hZ1 cc
  clear hZ1
  go_wp2_with fail
  refine (num_any C w1.drew).mono ?_
  rintro e w7 ⟨rfl, e7⟩
  subst e7
  clear e1 e2
  go_wp2
  go_ret2
  refine Hd.out.still (below_dr Hb1.out) al Z cc ?_
  rcases Hal.out with h | ⟨g, rfl, hg, hO⟩
  · exact .inl h
  · exact .inr ⟨g, rfl, hg, hO, HZ.out, HZl.out⟩

end Go.Proofs.Yteokekllbpkemaa
