/-
  An edge more; what is own is read.
-/
import Derived.Test.YtajnokkmpjdliaaKf1
import Derived.Test.YtajnokkmpjdliaaKf2
import Derived.Test.YtajnokkmpjdliaaLa0
namespace Go.Proofs.Ytajnokkmpjdliaa
open Go.RowKit

theorem rd_one {u : World} {b : Nat} {x y : Int} (hh : u.heap[b]? = some (.cells #[.int .i64 x, .int .i64 y] 28 (0, 0))) : RdZ u (some ⟨b, 0, none⟩) 1 [(x, y)] := by
  refine ⟨rfl, fun i hi => ⟨b, 0, rfl, ?_, ?_⟩⟩
  · have : i = 0 := by omega
    subst this
    simp [World.cell?, hh, zg]
  · have : i = 0 := by omega
    subst this
    simp [World.cell?, hh, zg]
theorem push_e (B : Nat) (a : Option Addr) (M c : Nat) (Y : List (Int × Int)) (x y : Int) (hM : Y.length = M) (hl : M ≤ 1048576) (w : World) (hB : B ≤ w.heap.size) (h : w.ownsRow B 28 2 (.slice a M c) M (flatE Y)) :
    ∃ g c' w2, (Builtin.append_ #[22, 22] 22 #[.slice a M c, .slice (some ⟨w.heap.size, 0, none⟩) 1 1]).run Try.prog (w.alloc (.cells #[.int .i64 x, .int .i64 y] 28)) = .ok (.slice (some ⟨g, 0, none⟩) (M + 1) c') w2 ∧
      w2.ownsRow B 28 2 (.slice (some ⟨g, 0, none⟩) (M + 1) c') (M + 1) (flatE (Y ++ [(x, y)])) ∧ But (fun k => some k = (Value.slice a M c).ownBlock) w w2 := by
  obtain ⟨i0, hi, hz0, hz1, hz2⟩ := info_parts info28
  have hA := below1 w (.cells #[.int .i64 x, .int .i64 y] 28)
  have h1 := own_next h hA
  have hh : (w.alloc (.cells #[.int .i64 x, .int .i64 y] 28)).heap[w.heap.size]? = some (.cells #[.int .i64 x, .int .i64 y] 28 (0, 0)) := heap_new _ _
  have hR := rd_one hh
  obtain ⟨v', w2, hr, r1, r2, r3, r4⟩ := run_append_own_at (P := Try.prog) (w.alloc (.cells #[.int .i64 x, .int .i64 y] 28)) B 22 22 28 i0 _ 2 16 Try.underlying22 hi hz0 hz1 hz2 rfl (by decide) _ _ _ h1 ⟨w.heap.size, 0, none⟩ 1 1 (flatE [(x, y)]) rfl (rdz_src hR) (flatE_one _) (by unfold maxLen; omega) (by omega) (by simp; omega)
  rw [← flatE_app] at r1
  have hb : But (fun k => some k = (Value.slice a M c).ownBlock) w w2 := (But.of_below hA).trans ⟨r2.os, r2.tape, r2.output, r2.size, fun k hk hx => r2.block k hk hx⟩
  rcases own_form r1 with ⟨e, hn⟩ | ⟨g, c', rfl, hg⟩
  · omega
  · exact ⟨g, c', w2, hr, r1, hb⟩
theorem own_rdz {B : Nat} {w : World} {a : Option Addr} {M c : Nat} {Y : List (Int × Int)} (h : w.ownsRow B 28 2 (.slice a M c) M (flatE Y)) (hM : Y.length = M) : RdZ w a M Y := by
  rcases own_form h with ⟨e, hn⟩ | ⟨g, c', e, hg⟩
  · simp at e
    refine ⟨hM, fun i hi => by omega⟩
  · simp at e
    obtain ⟨rfl, rfl⟩ := e
    have h' : OwE B w (.slice (some ⟨g, 0, none⟩) M c) Y := by unfold OwE; rw [hM]; exact h
    exact h'.rd hM
theorem okZ_of {k : Nat} {Y : List (Int × Int)} (hk : k ≤ 4000) (h : ∀ e ∈ Y, ∃ x y : Nat, e = ((x : Int), (y : Int)) ∧ x < k ∧ y < k) : okZ (k : Int) Y = true := by
  rw [okZ_iff]
  refine ⟨by omega, by omega, fun e he => ?_⟩
  obtain ⟨x, y, rfl, h1, h2⟩ := h e he
  simp only
  omega
theorem orX_no {k : Nat} {Y : List (Int × Int)} (h : okZ (k : Int) Y = true) (hL : (ordP k (toN Y)).length < k) : orX (k : Int) Y = ([], 241) := by
  unfold orX
  rw [if_pos h, Int.toNat_natCast, if_pos hL]
theorem orX_yes {k : Nat} {Y : List (Int × Int)} (h : okZ (k : Int) Y = true) (hL : ¬ (ordP k (toN Y)).length < k) : orX (k : Int) Y = (ordP k (toN Y), 0) := by
  unfold orX
  rw [if_pos h, Int.toNat_natCast, if_neg hL]
/-- where each stands, once all stand -/
theorem AtS.all {n : Nat} {E : List (Nat × Nat)} {at_ : List Int} (h : AtS n n (ordP n E) at_) (hL : (ordP n E).length = n) {x : Nat} (hx : x < n) : ∃ j, j < n ∧ (ordP n E).getD j 0 = x ∧ gt at_ x = (j : Int) := by
  have hm := (ord_kn n E).1.all hL x hx
  obtain ⟨j, hj, e⟩ := List.getElem_of_mem hm
  have e' : (ordP n E).getD j 0 = x := by rw [List.getD_eq_getElem?_getD, List.getElem?_eq_getElem hj]; exact e
  exact ⟨j, by omega, e', by rw [← e']; exact h.on j (by omega)⟩
/-- none that is less and stands behind was ready -/
theorem lt_held {n m : Nat} {E : List (Nat × Nat)} {at_ lt : List Int} (hm : E.length = m) (hA : AtS n n (ordP n E) at_) (hL : (ordP n E).length = n) (h : LtS E n (fun x => (gt at_ x).toNat) m lt) : ∀ i j, i < j → j < n → (ordP n E).getD j 0 < (ordP n E).getD i 0 → (i : Int) < gt lt ((ordP n E).getD j 0) := by
  intro i j hij hj hlt
  obtain ⟨q, k, h1, h2, h3, h4, h5⟩ := ord_held hij (by omega) hlt
  have h6 := h.h q (by omega)
  rw [h2, ← h4, hA.on k (by omega)] at h6
  omega
end Go.Proofs.Ytajnokkmpjdliaa
