/-
  Package cache: Read of any block.
-/
import Derived.Test.YtokgfnfgpjkpjaaCb2
namespace Go.Proofs.Ytokgfnfgpjkpjaa
open Go.RowKit Go.ChangeMaps

/-- what is held is what the disk would read -/
def Good (l : List (Int × List Int)) (img : List Int) (puts : List (Nat × List Int)) (nb : Nat) : Prop := ∀ q ∈ l, 0 ≤ q.1 ∧ q.1 < nb ∧ q.2 = seenZ img puts q.1.toNat
abbrev inL (l : List (Int × List Int)) (x : Int) : Prop := x ∈ l.map (·.1)
def hitN (l : List (Int × List Int)) (cd x : Int) : Int := if cd = 0 ∧ inL l x then 1 else 0
def missN (l : List (Int × List Int)) (cd x : Int) : Int := if cd = 0 ∧ ¬ inL l x then 1 else 0
def readL (room : Nat) (l : List (Int × List Int)) (rr : Int × List Int) (x : Int) : List (Int × List Int) := if rr.1 = 0 then holdL room l x rr.2 else l
theorem view_move {room : Nat} {A B : List Nat} {e : Nat} {f f' : Nat → En} {Z Z' : Nat → List Int} {D : DataW Nat} (hD : BM D (A ++ e :: B) f) (hnd : (A ++ e :: B).Nodup) (hrm : (A ++ e :: B).length ≤ room) (q2 : ∀ y, (f' y).at_ = (f y).at_) (q4 : ∀ y, y ≠ e → Z' y = Z y) : view (A ++ B ++ [e]) f' Z' = holdL room (view (A ++ e :: B) f Z) (f e).at_ (Z' e) := by
  obtain ⟨n1, n2, n3⟩ := List.nodup_append.1 hnd
  have hA : ∀ y ∈ A, y ≠ e := fun y hy q => n3 y hy e (by simp) q
  have hB : ∀ y ∈ B, y ≠ e := fun y hy q => (List.nodup_cons.1 n2).1 (by rw [← q]; exact hy)
  have hA' : ∀ y ∈ A, (f y).at_ ≠ (f e).at_ := fun y hy q => hA y hy (hD.uniq (by simp [hy]) (by simp) q)
  have hB' : ∀ y ∈ B, (f y).at_ ≠ (f e).at_ := fun y hy q => hB y hy (hD.uniq (by simp [hy]) (by simp) q)
  have e1 : view (A ++ B ++ [e]) f' Z' = view A f Z ++ view B f Z ++ [((f e).at_, Z' e)] := by
    rw [view_app, view_app, view_congr (es := A) (f := f) (Z := Z) (fun y hy => ⟨q2 y, q4 y (hA y hy)⟩), view_congr (es := B) (f := f) (Z := Z) (fun y hy => ⟨q2 y, q4 y (hB y hy)⟩)]
    simp [view, q2]
  have e2 : (view (A ++ e :: B) f Z).filter (fun q => q.1 ≠ (f e).at_) = view A f Z ++ view B f Z := by
    have : view (A ++ e :: B) f Z = view A f Z ++ ((f e).at_, Z e) :: view B f Z := by simp [view]
    rw [this, List.filter_append, view_none hA']
    simp only [ne_eq, decide_not, List.filter_cons, decide_true, Bool.not_true, Bool.false_eq_true, if_false]
    have hf := view_none (Z := Z) hB'
    simp only [ne_eq, decide_not] at hf
    rw [hf]
  unfold holdL
  rw [e2, e1, if_neg]
  simp [view_len] at hrm ⊢
  omega
set_option maxHeartbeats 1000000 in
theorem CRead_any {X Y : Nat → Prop} {w : World} {c p room : Nat} {hi mi : Int} {l : List (Int × List Int)} {img : List Int} {puts : List (Nat × List Int)} {fu : Int} {off : Bool} {nb : Nat} (h : CD X Y w c p room hi mi l img puts fu off nb) (hv : Good l img puts nb) (hl : puts.length ≤ 1073741824) {x : Int} (hwf : (Lit.int .i64 x).wf = true) (hhi : 0 ≤ hi ∧ hi < 4611686018427387904) (hmi : 0 ≤ mi ∧ mi < 4611686018427387904) :
    Calls Try.prog 8 #[.pointer (some ⟨c, 0, none⟩), .int .i64 x] w fun q w' => ∃ al cp, q = .returned (.tuple #[.slice al (readR img puts off nb x).2.length cp, .int .i64 (readR img puts off nb x).1]) ∧
      ((al = none ∧ cp = 0 ∧ (readR img puts off nb x).2 = []) ∨ ∃ g, al = some ⟨g, 0, none⟩ ∧ w.heap.size ≤ g ∧ Own w' g (readR img puts off nb x).2.length cp (readR img puts off nb x).2) ∧
      (∃ X' Y', CD X' Y' w' c p room (hi + hitN l (readR img puts off nb x).1 x) (mi + missN l (readR img puts off nb x).1 x) (readL room l (readR img puts off nb x) x) img puts fu off nb ∧ Grown X Y X' Y' w) ∧ But (fun k => X k ∨ Y k) w w' := by
  by_cases hin : inL l x
  · obtain ⟨q0, hq0, hqx⟩ := List.mem_map.1 hin
    obtain ⟨v0, v1, v2⟩ := hv q0 hq0
    obtain ⟨r, mp, n, es, f, Z, h1, rfl, h3, h4, h5, h6⟩ := h.ca
    unfold view at hq0
    obtain ⟨e, he, rfl⟩ := List.mem_map.1 hq0
    simp only at hqx v0 v1 v2
    subst hqx
    cases off with
    | true =>
      have hrr : readR img puts true nb (f e).at_ = (24, []) := rfl
      rw [hrr]
      refine Calls.mono (CRead_off h1 he h.dk hl hwf) ?_
      rintro q w' ⟨rfl, b⟩
      refine ⟨none, 0, rfl, .inl ⟨rfl, rfl, rfl⟩, ?_, But.of_below b⟩
      have := h.below b
      simpa [hitN, missN, readL] using this
    | false =>
      have hrr : readR img puts false nb (f e).at_ = (0, Z e) := by
        unfold readR
        rw [if_neg (by simp), if_neg (by omega), v2]
      rw [hrr]
      obtain ⟨A, B, rfl⟩ := List.append_of_mem he
      have hlen : (Z e).length = 512 := by rw [v2]; exact (h.dk.seen (by omega)).1
      obtain ⟨D, hm, hD⟩ := h1.map
      refine Calls.mono (CRead_hit h1 h.dk hhi hwf) ?_
      rintro q w' ⟨g, cap, rfl, q1, q2, ⟨f', q3, q4⟩, b⟩
      refine ⟨some ⟨g, 0, none⟩, cap, by simp only [hlen], .inr ⟨g, rfl, q1, by simp only [hlen]; exact q2⟩, ?_, b.mono (fun k _ q => .inr q)⟩
      have e1 : hitN (view (A ++ e :: B) f Z) (0, Z e).1 (f e).at_ = 1 := by unfold hitN; rw [if_pos ⟨rfl, hin⟩]
      have e2 : missN (view (A ++ e :: B) f Z) (0, Z e).1 (f e).at_ = 0 := by unfold missN; rw [if_neg (fun q => q.2 hin)]
      have e3 : readL room (view (A ++ e :: B) f Z) (0, Z e) (f e).at_ = view (A ++ B ++ [e]) f' Z := by
        unfold readL
        rw [if_pos rfl]
        exact (view_move hD (List.nodup_cons.1 h1.ring.1).2 h3 q4 (fun _ _ => rfl)).symm
      rw [e1, e2, e3, Int.add_zero]
      refine ⟨fun k => X k ∧ k < w.heap.size, Y, ⟨⟨r, mp, n, _, f', Z, q3, rfl, by simp at h3 ⊢; omega, h4, h5, fun y hy => by rw [q4]; exact h6 y (by simp at hy ⊢; rcases hy with q | q | q <;> simp [q])⟩, h.dk.cut.but b (fun k q q' => h.dj k q' q.1), fun k q q' => h.dj k q q'.1⟩, fun k hk => ⟨fun q => q.1, fun q => q⟩⟩
  · have hx : ∀ q ∈ l, q.1 ≠ x := fun q hq e => hin (List.mem_map.2 ⟨q, hq, e⟩)
    by_cases hz : (readR img puts off nb x).1 = 0
    · have hlen : (readR img puts off nb x).2.length = 512 := by
        unfold readR at hz ⊢
        split at hz
        · simp at hz
        · split at hz
          · simp at hz
          · rw [if_neg ‹_›, if_neg ‹_›]
            exact (h.dk.seen (by omega)).1
      refine Calls.mono (CRead_miss h hl hwf hx hmi hz) ?_
      rintro q w' ⟨g, cap, rfl, q1, q2, q3, b⟩
      have e1 : hitN l (readR img puts off nb x).1 x = 0 := by unfold hitN; rw [if_neg (fun q => hin q.2)]
      have e2 : missN l (readR img puts off nb x).1 x = 1 := by unfold missN; rw [if_pos ⟨hz, hin⟩]
      have e3 : readL room l (readR img puts off nb x) x = holdL room l x (readR img puts off nb x).2 := by unfold readL; rw [if_pos hz]
      refine ⟨some ⟨g, 0, none⟩, cap, by rw [hlen, hz], .inr ⟨g, rfl, q1, by rw [hlen]; exact q2⟩, ?_, b⟩
      rw [e1, e2, e3, Int.add_zero]
      exact q3
    · have hrr : (readR img puts off nb x).2 = [] := by
        unfold readR at hz ⊢
        split
        · rfl
        · split
          · rfl
          · rw [if_neg ‹_›, if_neg ‹_›] at hz
            exact absurd rfl hz
      refine Calls.mono (CRead_bad h hl hwf hx hz) ?_
      rintro q w' ⟨rfl, b⟩
      have e1 : hitN l (readR img puts off nb x).1 x = 0 := by unfold hitN; rw [if_neg (fun q => hz q.1)]
      have e2 : missN l (readR img puts off nb x).1 x = 0 := by unfold missN; rw [if_neg (fun q => hz q.1)]
      have e3 : readL room l (readR img puts off nb x) x = l := by unfold readL; rw [if_neg hz]
      refine ⟨none, 0, by rw [hrr]; rfl, .inl ⟨rfl, rfl, hrr⟩, ?_, But.of_below b⟩
      rw [e1, e2, e3, Int.add_zero, Int.add_zero]
      exact h.below b

end Go.Proofs.Ytokgfnfgpjkpjaa
