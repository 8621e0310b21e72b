/-
  CacheReads: alike, a Flush, a Fuse.
-/
import Derived.Test.YtokgfnfgpjkpjaaCb7
namespace Go.Proofs.Ytokgfnfgpjkpjaa
open Go.RowKit

theorem Dk.grow {X : Nat → Prop} {S : Nat} {w : World} {p : Nat} {img : List Int} {puts : List (Nat × List Int)} {fu : Int} {off : Bool} {nb : Nat} (h : Dk X w p img puts fu off nb) : Dk (fun k => X k ∨ S ≤ k) w p img puts fu off nb := h.mono (fun _ q => .inl q)
set_option maxRecDepth 100000 in
set_option maxHeartbeats 4000000 in
theorem alike3 {B : Nat} {w0 w : World} {c p p2 room nb m : Nat} (h : Duo B w0 w c p p2 room nb m) (hm : m ≤ 1073741823) (wh at_ fi : Int) (ra : Value) :
    Calls Try.prog 19 #[.pointer (some ⟨c, 0, none⟩), .pointer (some ⟨p2, 0, none⟩), cactV wh 3 at_ fi ra] w fun q w' => q = .returned (.bool true) ∧ Duo B w0 w' c p p2 room nb (m + 1) := by
  unfold cactV
  obtain ⟨W, hW⟩ : ∃ W, W = w.alloc (.cells #[.int .i64 wh, .int .i64 3, .int .i64 at_, .int .i64 fi, ra] 42) := ⟨_, rfl⟩
  have bW : Below w.heap.size w W := by rw [hW]; exact (Below.refl _ _).alloc (Nat.le_refl _) _
  obtain ⟨X, Y, X2, hi, mi, l, img, puts, fu, off, h1, h2, h3, h4, h5, h6, h7, h8⟩ := h.below bW
  obtain ⟨v2, v3, cg, _⟩ := h1.cd.cg
  have HF := hid (Flush_disk cg (R := fun x w1 => x = flushC off fu ∧ Dk (fun k => X k ∨ W.heap.size ≤ k) w1 p (if flushC off fu = 0 then flushZ img puts else img) (if flushC off fu = 0 then [] else puts) (afterF off fu) (afterO off fu) nb ∧ But X W w1) (Calls.mono (Flush_any h1.cd.dk (by omega)) (fun e w1 q => ⟨_, q.1, rfl, q.2⟩)))
  have hG : Good l (if flushC off fu = 0 then flushZ img puts else img) (if flushC off fu = 0 then [] else puts) nb := by
    split
    · exact h2.flush h1.cd.dk.facts.2.1 h1.cd.dk.fit
    · exact h2
  have hP : (if flushC off fu = 0 then [] else puts).length ≤ m + 1 := by
    split
    · simp
    · omega
  have HQ : Hid (∀ w1, Dk (fun k => X k ∨ W.heap.size ≤ k) w1 p (if flushC off fu = 0 then flushZ img puts else img) (if flushC off fu = 0 then [] else puts) (afterF off fu) (afterO off fu) nb → But X W w1 → Calls Try.prog 36 #[.pointer (some ⟨p2, 0, none⟩)] w1 fun e w' => e = .returned (.int .i64 (flushC off fu)) ∧ Duo B w0 w' c p p2 room nb (m + 1)) := fun w1 d1 b1 => by
    obtain ⟨⟨X', Y', cd1, g1⟩, b1'⟩ := h1.cd.disk d1 b1
    refine Calls.mono (Flush_any (h1.next cd1 g1 b1').1 (by omega)) ?_
    rintro e w' ⟨rfl, d2, b2⟩
    exact ⟨rfl, Duo.of h1 h6 h7 h8 cd1 g1 b1' d2 b2 hG hP (by omega) (by omega)⟩
  clear h1 h2 h6 h8 bW hG hP cg
  generalize flushC off fu = C at *
  go_enter Try.func19, Try.ntmps19
  go_wp2_with fail
  rw [← hW]
  refine Calls.mono HF.out ?_
  rintro q w1 ⟨_, rfl, rfl, d1, b1⟩
  have HQ1 := hid (HQ.out w1 d1 b1)
  clear d1 b1 HF HQ
  go_wp2_with fail
  refine Calls.mono HQ1.out ?_
  rintro q w2 ⟨rfl, d⟩
  have F := hid d
  clear d HQ1
  go_wp2
  go_ret
  exact ⟨by simp, F.out⟩

end Go.Proofs.Ytokgfnfgpjkpjaa
