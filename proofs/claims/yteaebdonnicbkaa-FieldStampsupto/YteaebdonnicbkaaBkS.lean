/-
  settle.
-/
import Derived.Test.YteaebdonnicbkaaBkN
namespace Go.Proofs.Yteaebdonnicbkaa
open Go.RowKit

/-- Own of nothing -/
theorem OwnNil (B : Nat) (X : Nat → Prop) (w : World) (b cnt tot nK : Nat) (mark : Int) (hB : B ≤ w.heap.size) (hnK : nK ≤ 67108864) (hc : cnt ≤ 8388608) (ht : tot ≤ 1073741754) (hm0 : 0 ≤ mark) (hm1 : mark ≤ 268435456) (h : Bok B X w b cnt tot nK) :
    Calls Try.prog 44 #[.pointer (some ⟨b, 0, none⟩), .slice none 0 0, .int .i64 mark] w fun e w' => e = .returned (.tuple #[]) ∧ ∃ nK', nK' ≤ nK + 15 ∧
      Bok B (fun x => X x ∨ w.heap.size ≤ x) w' b (cnt + 1) tot nK' ∧ But X w w' := by
  refine Calls.mono (Own_any B X w b cnt tot nK none [] mark hB hnK hc ht (by decide) hm0 hm1 h Pl.isB_nil (.inl ⟨rfl, rfl⟩)) ?_
  rintro e w' ⟨rfl, nK', hn, h1, h2⟩
  refine ⟨rfl, nK', hn, h1.mono (fun x q => ?_), h2.mono (fun x _ q => ?_)⟩
  · rcases q with q | q | q
    · exact .inl q
    · cases q
    · exact .inr q
  · rcases q with q | q
    · exact q
    · cases q

set_option maxHeartbeats 400000 in
theorem settle_any (B : Nat) (X : Nat → Prop) (w : World) (b cnt tot nK : Nat) (hB : B ≤ w.heap.size) (hnK : nK ≤ 67108000) (hc : cnt ≤ 8388000) (ht : tot ≤ 1073741754) (h : Bok B X w b cnt tot nK) :
    Calls Try.prog 28 #[.pointer (some ⟨b, 0, none⟩)] w fun e w' => e = .returned (.bool true) ∧ But X w w' := by
  have H0 := hid (OwnNil B X w b cnt tot nK 1 hB (by omega) (by omega) ht (by omega) (by omega) h)
  go_enter Try.func28, Try.ntmps28
  go_wp2_with fail
  refine Calls.mono H0.out ?_
  rintro e w1 ⟨rfl, n1, hn1, h1, u1⟩
  have H1 := hid (OwnNil B _ w1 b (cnt + 1) tot n1 2 (Nat.le_trans hB u1.size) (by omega) (by omega) ht (by omega) (by omega) h1)
  go_wp2_with fail
  refine Calls.mono H1.out ?_
  rintro e w2 ⟨rfl, n2, hn2, h2, u2⟩
  have v2 := u1.step u2 (fun x hx q => q.elim id (fun e => absurd hx (by omega)))
  have H2 := hid (OwnNil B _ w2 b (cnt + 1 + 1) tot n2 3 (Nat.le_trans hB v2.size) (by omega) (by omega) ht (by omega) (by omega) h2)
  go_wp2_with fail
  refine Calls.mono H2.out ?_
  rintro e w3 ⟨rfl, n3, hn3, h3, u3⟩
  have s1 := u1.size
  have v3 := v2.step u3 (fun x hx q => q.elim (fun q => q.elim id (fun e => absurd hx (by omega))) (fun e => absurd hx (by have := v2.size; omega)))
  have H3 := hid (Holds_any B _ w3 b (cnt + 1 + 1 + 1) tot n3 (by omega) h3)
  have V3 := hid v3
  have S3 := hid (And.intro s1 (And.intro v2.size v3.size))
  clear h h1 h2 h3 u1 u2 u3 v2 v3 s1 H0 H1 H2
  go_wp2_with fail
  refine Calls.mono H3.out ?_
  rintro e w4 ⟨rfl, _, u4⟩
  have V4 := hid (V3.out.step u4 (fun x hx q => by
    obtain ⟨a1, a2, a3⟩ := S3.out
    rcases q with ((q | q) | q) | q
    · exact q
    all_goals omega))
  clear u4
  go_wp2
  go_ret
  exact ⟨rfl, V4.out⟩

end Go.Proofs.Yteaebdonnicbkaa
