/-
  The document's cache: what is no cache.
-/
import Derived.Test.YtfadnmdmohabmaaRuc
import Derived.Test.YtfadnmdmohabmaaRfc
import Derived.Test.YtfadnmdmohabmaaCfa
namespace Go.Proofs.Ytfadnmdmohabmaa
open Go.RowKit

theorem refCRead_nil (w : World) (k : Int) : Calls Try.prog 39 #[.pointer none, .int .i64 k] w fun e w' => e = .returned (.tuple #[.string ⟨#[]⟩, .int .i64 1]) ∧ w' = w := by
  go_enter Try.func39, Try.ntmps39
  go_wp2
  go_ret2
  exact ⟨rfl, rfl⟩
theorem refCWrite_nil (w : World) (k : Int) (v : Value) : Calls Try.prog 43 #[.pointer none, .int .i64 k, v] w fun e w' => e = .returned (.int .i64 1) ∧ w' = w := by
  go_enter Try.func43, Try.ntmps43
  go_wp2
  go_ret
  exact ⟨rfl, rfl⟩
theorem refCHeld_nil (w : World) : Calls Try.prog 45 #[.pointer none] w fun e w' => e = .returned (.tuple #[.slice none 0 0, .int .i64 1]) ∧ w' = w := by
  go_enter Try.func45, Try.ntmps45
  go_wp2
  go_ret2
  exact ⟨rfl, rfl⟩
theorem refCounts_nil (w : World) : Calls Try.prog 48 #[.pointer none] w fun e w' => e = .returned (.tuple #[.int .i64 0, .int .i64 0, .int .i64 1]) ∧ w' = w := by
  go_enter Try.func48, Try.ntmps48
  go_wp2
  go_ret3
  exact ⟨rfl, rfl⟩
theorem refForget_nil (w : World) : Calls Try.prog 49 #[.pointer none] w fun e w' => e = .returned (.int .i64 1) ∧ w' = w := by
  go_enter Try.func49, Try.ntmps49
  go_wp2
  go_ret
  exact ⟨rfl, rfl⟩
theorem refCFlush_nil (w : World) : Calls Try.prog 50 #[.pointer none] w fun e w' => e = .returned (.int .i64 1) ∧ w' = w := by
  go_enter Try.func50, Try.ntmps50
  go_wp2
  go_ret
  exact ⟨rfl, rfl⟩

end Go.Proofs.Ytfadnmdmohabmaa

/-
  The document's cache and its disk together: Counts, Forget, Flush, Held.
-/
namespace Go.Proofs.Ytfadnmdmohabmaa
open Go.RowKit

/-- whatever the disk did of its own -/
theorem Rp.disk {Z X Y : Nat → Prop} {w w' : World} {x r room : Nat} {us : Us} {hi mi : Int} {uv : Value} {img : List Int} {puts : List (Nat × List Int)} {fu : Int} {off : Bool} {nb : Nat} (hd : ∀ k, X k → Y k → False) (hX : ∀ k, X k → Z k ∧ k < w.heap.size) (hY : ∀ k, Y k → Z k ∧ k < w.heap.size) (h : Rcs Y w x r room us hi mi uv) (hk : Rk (fun k => X k ∨ w.heap.size ≤ k) w' r img puts fu off nb) (hb : But X w w') : Rp (fun k => Z k ∨ w.heap.size ≤ k) w' x r room us hi mi img puts fu off nb ∧ But Z w w' := by
  have hs : w.heap.size ≤ w'.heap.size := hb.size
  refine ⟨⟨_, Y, uv, ?_, ?_, ?_, hk.lt, h.keep (fun q hq _ => hb.block q (hY q hq).2 (fun hx => hd q hx hq))⟩, hb.mono (fun q _ e => (hX q e).1)⟩
  · rintro q ⟨h1, h2⟩ h4
    rcases h1 with h1 | h1
    · exact hd q h1 h4
    · have := (hY q h4).2; omega
  · rintro q ⟨h1, h2⟩
    exact ⟨h1.imp (fun h => (hX q h).1) id, h2⟩
  · intro q h1
    exact ⟨.inl (hY q h1).1, by have := (hY q h1).2; omega⟩
theorem refCFlush_p {Z : Nat → Prop} {w : World} {x r room : Nat} {us : Us} {hi mi : Int} {img : List Int} {puts : List (Nat × List Int)} {fu : Int} {off : Bool} {nb : Nat} (h : Rp Z w x r room us hi mi img puts fu off nb) (hl : puts.length ≤ 1073741824) :
    Calls Try.prog 50 #[.pointer (some ⟨x, 0, none⟩)] w fun e w' => e = .returned (.int .i64 (flushC off fu)) ∧ Rp (fun k => Z k ∨ w.heap.size ≤ k) w' x r room us hi mi (if flushC off fu = 0 then flushZ img puts else img) (if flushC off fu = 0 then [] else puts) (afterF off fu) (afterO off fu) nb ∧ But Z w w' := by
  obtain ⟨X, Y, uv, hd, hX, hY, hk, h⟩ := h
  refine Calls.mono (refCFlush_disk h.blk (R := fun y w' => y = flushC off fu ∧ Rp (fun k => Z k ∨ w.heap.size ≤ k) w' x r room us hi mi (if flushC off fu = 0 then flushZ img puts else img) (if flushC off fu = 0 then [] else puts) (afterF off fu) (afterO off fu) nb ∧ But Z w w') (Calls.mono (refFlush_any hk hl) ?_)) ?_
  · rintro e w' ⟨rfl, hk', hb⟩
    exact ⟨_, rfl, rfl, Rp.disk hd hX hY h hk' hb⟩
  · rintro e w' ⟨y, rfl, rfl, h1⟩
    exact ⟨rfl, h1⟩
theorem refForget_p {Z : Nat → Prop} {w : World} {x r room : Nat} {us : Us} {hi mi : Int} {img : List Int} {puts : List (Nat × List Int)} {fu : Int} {off : Bool} {nb : Nat} (h : Rp Z w x r room us hi mi img puts fu off nb) :
    Calls Try.prog 49 #[.pointer (some ⟨x, 0, none⟩)] w fun e w' => e = .returned (.int .i64 0) ∧ Rp Z w' x r room [] hi mi img puts fu off nb ∧ But Z w w' := by
  obtain ⟨X, Y, uv, hd, hX, hY, hk, h⟩ := h
  refine Calls.mono (refForget_any h) ?_
  rintro e w' ⟨rfl, h', hb⟩
  have hs : w.heap.size ≤ w'.heap.size := hb.size
  exact ⟨rfl, ⟨X, Y, _, hd, fun q e => ⟨(hX q e).1, by have := (hX q e).2; omega⟩, fun q e => ⟨(hY q e).1, by have := (hY q e).2; omega⟩, hk.but hb (fun q h1 h2 => hd q h1 h2), h'⟩, hb.mono (fun q _ e => (hY q e).1)⟩
theorem Rp.below {Z : Nat → Prop} {w w' : World} {x r room : Nat} {us : Us} {hi mi : Int} {img : List Int} {puts : List (Nat × List Int)} {fu : Int} {off : Bool} {nb : Nat} (h : Rp Z w x r room us hi mi img puts fu off nb) (hb : Below w.heap.size w w') : Rp Z w' x r room us hi mi img puts fu off nb := by
  obtain ⟨X, Y, uv, hd, hX, hY, hk, h⟩ := h
  have hs : w.heap.size ≤ w'.heap.size := hb.size
  exact ⟨X, Y, _, hd, fun q e => ⟨(hX q e).1, by have := (hX q e).2; omega⟩, fun q e => ⟨(hY q e).1, by have := (hY q e).2; omega⟩, hk.below hb, h.keep (fun q _ h2 => hb.block q h2)⟩
theorem Rp.but {Z U : Nat → Prop} {w w' : World} {x r room : Nat} {us : Us} {hi mi : Int} {img : List Int} {puts : List (Nat × List Int)} {fu : Int} {off : Bool} {nb : Nat} (h : Rp Z w x r room us hi mi img puts fu off nb) (hb : But U w w') (hu : ∀ q, Z q → ¬ U q) : Rp Z w' x r room us hi mi img puts fu off nb := by
  obtain ⟨X, Y, uv, hd, hX, hY, hk, h⟩ := h
  have hs : w.heap.size ≤ w'.heap.size := hb.size
  exact ⟨X, Y, _, hd, fun q e => ⟨(hX q e).1, by have := (hX q e).2; omega⟩, fun q e => ⟨(hY q e).1, by have := (hY q e).2; omega⟩, hk.but hb (fun q e => hu q (hX q e).1), h.keep (fun q e h2 => hb.block q h2 (hu q (hY q e).1))⟩
theorem refCHeld_p {Z : Nat → Prop} {w : World} {x r room : Nat} {us : Us} {hi mi : Int} {img : List Int} {puts : List (Nat × List Int)} {fu : Int} {off : Bool} {nb : Nat} (h : Rp Z w x r room us hi mi img puts fu off nb) (hn : us.length ≤ 16777216) (hr : room ≤ 4096) :
    Calls Try.prog 45 #[.pointer (some ⟨x, 0, none⟩)] w fun e w' => ∃ al cp, e = .returned (.tuple #[.slice al (heldU room us).length cp, .int .i64 0]) ∧ RdI w'.heap.size w' al (heldU room us).length ((heldU room us).map (·.1)) ∧ Below w.heap.size w w' := by
  obtain ⟨X, Y, uv, hd, hX, hY, hk, h⟩ := h
  exact refCHeld_any h hn hr
theorem refCounts_p {Z : Nat → Prop} {w : World} {x r room : Nat} {us : Us} {hi mi : Int} {img : List Int} {puts : List (Nat × List Int)} {fu : Int} {off : Bool} {nb : Nat} (h : Rp Z w x r room us hi mi img puts fu off nb) :
    Calls Try.prog 48 #[.pointer (some ⟨x, 0, none⟩)] w fun e w' => e = .returned (.tuple #[.int .i64 hi, .int .i64 mi, .int .i64 0]) ∧ w' = w.drew := by
  obtain ⟨X, Y, uv, hd, hX, hY, hk, h⟩ := h
  exact refCounts_any h

end Go.Proofs.Ytfadnmdmohabmaa

/-
  The document's cache: Read of any block, as the program's cache answers it.
-/
namespace Go.Proofs.Ytfadnmdmohabmaa
open Go.RowKit

theorem mem_stepB {b : Us} {q p : Int × List Int} (h : p ∈ stepB b q) : p ∈ b ∨ p = q := by
  unfold stepB at h
  split at h
  · exact .inl h
  · simpa using h
theorem mem_fold : ∀ (t b : Us) {p : Int × List Int}, p ∈ t.foldl stepB b → p ∈ b ∨ p ∈ t
  | [], _, _, h => .inl h
  | q :: t, b, p, h => by
    rcases mem_fold t (stepB b q) h with h | h
    · rcases mem_stepB h with h | h
      · exact .inl h
      · exact .inr (by simp [h])
    · exact .inr (by simp [h])
theorem mem_heldU {room : Nat} {us : Us} {q : Int × List Int} (h : q ∈ heldU room us) : q ∈ us := by
  unfold heldU at h
  rw [back_take _ _ _ (by simp)] at h
  rcases mem_fold _ _ (List.mem_of_mem_take (List.mem_reverse.1 h)) with h | h
  · cases h
  · simpa using h
theorem find_first : ∀ (l : Us) (k : Int) {p : Int × List Int}, l.find? (fun q => q.1 == k) = some p → ∃ j : Nat, l[j]? = some p ∧ p.1 = k ∧ ∀ (i : Nat) (q : Int × List Int), i < j → l[i]? = some q → q.1 ≠ k
  | [], _, _, h => by cases h
  | a :: t, k, p, h => by
    by_cases e : a.1 = k
    · rw [List.find?_cons_of_pos (by simpa using e)] at h
      cases h
      exact ⟨0, rfl, e, fun i q hi => by omega⟩
    · rw [List.find?_cons_of_neg (by simpa using e)] at h
      obtain ⟨j, h1, h2, h3⟩ := find_first t k h
      refine ⟨j + 1, by simpa using h1, h2, fun i q hi hq => ?_⟩
      cases i with
      | zero =>
        simp at hq
        rw [← hq]
        exact e
      | succ i => exact h3 i q (by omega) (by simpa using hq)
theorem heldZ_some {l : Us} {k : Int} {z : List Int} (h : heldZ l k = some z) : ∃ j : Nat, l[j]? = some (k, z) ∧ (∀ (i : Nat) (q : Int × List Int), i < j → l[i]? = some q → q.1 ≠ k) ∧ inL l k := by
  unfold heldZ at h
  cases hf : l.find? (fun q => q.1 == k) with
  | none => rw [hf] at h; cases h
  | some p =>
    rw [hf] at h
    obtain ⟨j, h1, h2, h3⟩ := find_first l k hf
    simp at h
    obtain ⟨p1, p2⟩ := p
    simp only at h h2
    subst h h2
    exact ⟨j, h1, h3, List.mem_map.2 ⟨_, List.mem_of_getElem? h1, rfl⟩⟩
theorem heldZ_none' {l : Us} {k : Int} (h : heldZ l k = none) : ∀ q ∈ l, q.1 ≠ k := by
  unfold heldZ at h
  intro q hq e
  have := List.find?_eq_none.1 (Option.map_eq_none_iff.1 h) q hq
  simp [e] at this

theorem refCRead_any {Z : Nat → Prop} {w : World} {x r room : Nat} {us : Us} {hi mi : Int} {img : List Int} {puts : List (Nat × List Int)} {fu : Int} {off : Bool} {nb : Nat} (h : Rp Z w x r room us hi mi img puts fu off nb) (hl : puts.length ≤ 1073741824) (hu : us.length ≤ 16777215) (hr : room ≤ 4096) (hhi : 0 ≤ hi ∧ hi < 4611686018427387904) (hmi : 0 ≤ mi ∧ mi < 4611686018427387904) (hin : ∀ q ∈ us, 0 ≤ q.1 ∧ q.1 < (nb : Int)) (k : Int) :
    Calls Try.prog 39 #[.pointer (some ⟨x, 0, none⟩), .int .i64 k] w fun e w' => e = .returned (.tuple #[.string (strOfNums (readS (heldU room us) img puts off nb k).2), .int .i64 (readS (heldU room us) img puts off nb k).1]) ∧
      Rp (fun k => Z k ∨ w.heap.size ≤ k) w' x r room (if (readS (heldU room us) img puts off nb k).1 = 0 then us ++ [(k, (readS (heldU room us) img puts off nb k).2)] else us) (hi + hitN (heldU room us) (readS (heldU room us) img puts off nb k).1 k) (mi + missN (heldU room us) (readS (heldU room us) img puts off nb k).1 k) img puts fu off nb ∧ But Z w w' := by
  by_cases hz : (readR img puts off nb k).1 = 0
  · have hoff : off = false := by
      cases off
      · rfl
      · simp [readR] at hz
    subst hoff
    have hz2 : readR img puts false nb k = (0, (readR img puts false nb k).2) := by rw [← hz]
    cases hh : heldZ (heldU room us) k with
    | none =>
      have hS : readS (heldU room us) img puts false nb k = (0, (readR img puts false nb k).2) := by
        unfold readS
        rw [if_neg (by simp), hh]
        exact hz2
      have hm := heldZ_none' hh
      have hni : ¬ inL (heldU room us) k := fun q => by
        obtain ⟨p, hp, e⟩ := List.mem_map.1 q
        exact hm p hp e
      rw [hS, if_pos rfl]
      rw [show hitN (heldU room us) 0 k = 0 from by unfold hitN; rw [if_neg (fun q => hni q.2)], show missN (heldU room us) 0 k = 1 from by unfold missN; rw [if_pos ⟨rfl, hni⟩], Int.add_zero]
      exact refCRead_miss h hl hu hr hmi k _ hz2 hm
    | some z =>
      have hS : readS (heldU room us) img puts false nb k = (0, z) := by
        unfold readS
        rw [if_neg (by simp), hh]
      obtain ⟨j, h1, h2, h3⟩ := heldZ_some hh
      rw [hS, if_pos rfl]
      rw [show hitN (heldU room us) 0 k = 1 from by unfold hitN; rw [if_pos ⟨rfl, h3⟩], show missN (heldU room us) 0 k = 0 from by unfold missN; rw [if_neg (fun q => q.2 h3)], Int.add_zero]
      exact refCRead_hit h hl hu hr hhi k _ hz2 j z h1 h2
  · have hS : readS (heldU room us) img puts off nb k = ((readR img puts off nb k).1, []) := by
      cases off with
      | true => rfl
      | false =>
        unfold readS
        rw [if_neg (by simp)]
        have hout : k < 0 ∨ (nb : Int) ≤ k := by
          by_cases q : k < 0 ∨ (nb : Int) ≤ k
          · exact q
          · unfold readR at hz
            rw [if_neg (by simp), if_neg q] at hz
            exact absurd rfl hz
        have hR : readR img puts false nb k = (22, []) := by unfold readR; rw [if_neg (by simp), if_pos hout]
        cases hh : heldZ (heldU room us) k with
        | none => simp only [hR]
        | some z =>
          obtain ⟨j, h1, _⟩ := heldZ_some hh
          have := hin _ (mem_heldU (List.mem_of_getElem? h1))
          simp only at this
          omega
    rw [hS]
    simp only
    rw [if_neg hz, show hitN (heldU room us) (readR img puts off nb k).1 k = 0 from by unfold hitN; rw [if_neg (fun q => hz q.1)], show missN (heldU room us) (readR img puts off nb k).1 k = 0 from by unfold missN; rw [if_neg (fun q => hz q.1)], Int.add_zero, Int.add_zero]
    refine Calls.mono (refCRead_err h hl k hz) ?_
    rintro e w' ⟨rfl, rfl⟩
    exact ⟨rfl, h.mono (fun _ q => .inl q), But.refl _ _⟩

end Go.Proofs.Ytfadnmdmohabmaa
