/-
  What is held is what the disk would read: kept by every call.
-/
import Derived.Test.YtokgfnfgpjkpjaaCb3
namespace Go.Proofs.Ytokgfnfgpjkpjaa
open Go.RowKit

/-- block i of an image -/
def imgB (im : List Int) (i : Nat) : List Int := (im.drop (512 * i)).take 512
theorem get_splice {L cs : List Int} {o : Nat} (h : o + cs.length ≤ L.length) (j : Nat) : (splice L o cs)[j]? = if j < o then L[j]? else if j < o + cs.length then cs[j - o]? else L[j]? := by
  have hl : (L.take o).length = o := by simp; omega
  unfold splice
  by_cases h1 : j < o
  · rw [if_pos h1, List.getElem?_append_left (by omega), List.getElem?_take_of_lt h1]
  · rw [if_neg h1, List.getElem?_append_right (by omega), hl]
    by_cases h2 : j < o + cs.length
    · rw [if_pos h2, List.getElem?_append_left (by omega)]
    · rw [if_neg h2, List.getElem?_append_right (by omega), List.getElem?_drop]
      congr 1
      omega
theorem get_imgB (L : List Int) (i t : Nat) : (imgB L i)[t]? = if t < 512 then L[512 * i + t]? else none := by
  unfold imgB
  by_cases h : t < 512
  · rw [if_pos h, List.getElem?_take_of_lt h, List.getElem?_drop]
  · rw [if_neg h]
    exact List.getElem?_eq_none (by simp; omega)
theorem imgB_splice {im d : List Int} {nb x : Nat} (i : Nat) (hlen : im.length = 512 * nb) (hd : d.length = 512) (hx : x < nb) : imgB (splice im (x * 512) d) i = if i = x then d else imgB im i := by
  apply List.ext_getElem?
  intro t
  rw [get_imgB]
  by_cases ht : t < 512
  · rw [if_pos ht, get_splice (by omega)]
    by_cases e : i = x
    · subst e
      rw [if_neg (by omega), if_pos (by omega), if_pos rfl]
      congr 1
      omega
    · rw [if_neg e, get_imgB, if_pos ht]
      by_cases h1 : i < x
      · rw [if_pos (by omega)]
      · rw [if_neg (by omega), if_neg (by omega)]
  · rw [if_neg ht]
    by_cases e : i = x
    · rw [if_pos e]; exact (List.getElem?_eq_none (by omega)).symm
    · rw [if_neg e, get_imgB, if_neg ht]
theorem length_imgB {im : List Int} {nb i : Nat} (h : im.length = 512 * nb) (hi : i < nb) : (imgB im i).length = 512 := by unfold imgB; simp; omega
theorem isB_imgB {im : List Int} (h : Pl.isB im) (i : Nat) : Pl.isB (imgB im i) := fun z hz => h z (List.mem_of_mem_drop (List.mem_of_mem_take hz))
/-- writes that fit -/
def Fit (nb : Nat) (puts : List (Nat × List Int)) : Prop := ∀ q ∈ puts, q.1 < nb ∧ q.2.length = 512 ∧ Pl.isB q.2
theorem flush_seen {nb x : Nat} (puts : List (Nat × List Int)) : ∀ (img : List Int), img.length = 512 * nb → Fit nb puts → imgB (flushZ img puts) x = seenZ img puts x := by
  induction puts with
  | nil => intro img _ _; rfl
  | cons q r ih =>
    intro img hl hf
    obtain ⟨f1, f2, _⟩ := hf q (by simp)
    have e1 : flushZ img (q :: r) = flushZ (splice img (q.1 * 512) q.2) r := rfl
    rw [e1, ih _ (by rw [length_splice _ _ _ (by omega)]; exact hl) (fun q' h => hf q' (by simp [h]))]
    have e2 : seenZ (splice img (q.1 * 512) q.2) r x = r.foldl (fun s q => if q.1 = x then q.2 else s) (imgB (splice img (q.1 * 512) q.2) x) := rfl
    have e3 : seenZ img (q :: r) x = r.foldl (fun s q => if q.1 = x then q.2 else s) (if q.1 = x then q.2 else imgB img x) := rfl
    rw [e2, e3, imgB_splice x hl f2 f1]
    congr 1
    by_cases e : x = q.1
    · rw [if_pos e, if_pos e.symm]
    · rw [if_neg e, if_neg (fun h => e h.symm)]
theorem Dk.fit {X : Nat → Prop} {w : World} {p : Nat} {img : List Int} {puts : List (Nat × List Int)} {fu : Int} {off : Bool} {nb : Nat} (h : Dk X w p img puts fu off nb) : Fit nb puts := by
  obtain ⟨ds, gL, cL, pv, mp, rfl, h⟩ := h
  intro q hq
  obtain ⟨d, hd, rfl⟩ := List.mem_map.1 hq
  exact ⟨(h.dat d hd).2.2.2.2, (h.dat d hd).1.len, (h.dat d hd).2.1⟩
theorem mem_holdL {room : Nat} {l : List (Int × List Int)} {x : Int} {zs : List Int} {q : Int × List Int} (h : q ∈ holdL room l x zs) : (q ∈ l ∧ q.1 ≠ x) ∨ q = (x, zs) := by
  have h2 : q ∈ l.filter (fun q => q.1 ≠ x) ++ [(x, zs)] := by
    unfold holdL at h
    split at h
    · exact List.mem_of_mem_tail h
    · exact h
  rcases List.mem_append.1 h2 with h2 | h2
  · obtain ⟨q1, q2⟩ := List.mem_filter.1 h2
    exact .inl ⟨q1, by simpa using q2⟩
  · exact .inr (by simpa using h2)
theorem Good.read {l : List (Int × List Int)} {img : List Int} {puts : List (Nat × List Int)} {nb : Nat} (h : Good l img puts nb) (room : Nat) (off : Bool) (x : Int) : Good (readL room l (readR img puts off nb x) x) img puts nb := by
  intro q hq
  unfold readL at hq
  split at hq
  · rename_i hz
    have hr : 0 ≤ x ∧ x < nb ∧ (readR img puts off nb x).2 = seenZ img puts x.toNat := by
      unfold readR at hz ⊢
      split at hz
      · simp at hz
      · split at hz
        · simp at hz
        · rw [if_neg ‹_›, if_neg ‹_›]
          exact ⟨by omega, by omega, rfl⟩
    rcases mem_holdL hq with q1 | rfl
    · exact h q q1.1
    · exact hr
  · exact h q hq
theorem seen_push (img : List Int) (puts : List (Nat × List Int)) (y : Nat) (zs : List Int) (x : Nat) : seenZ img (puts ++ [(y, zs)]) x = if y = x then zs else seenZ img puts x := by
  unfold seenZ
  rw [List.foldl_append]
  rfl
theorem Good.write {l : List (Int × List Int)} {img : List Int} {puts : List (Nat × List Int)} {nb : Nat} (h : Good l img puts nb) (room : Nat) {x : Int} (h0 : 0 ≤ x) (h1 : x < nb) (zs : List Int) : Good (holdL room l x zs) img (puts ++ [(x.toNat, zs)]) nb := by
  intro q hq
  rcases mem_holdL hq with ⟨q1, q2⟩ | rfl
  · obtain ⟨a, b, c⟩ := h q q1
    refine ⟨a, b, ?_⟩
    rw [seen_push, if_neg (by omega)]
    exact c
  · exact ⟨h0, h1, by rw [seen_push, if_pos rfl]⟩
theorem Good.flush {l : List (Int × List Int)} {img : List Int} {puts : List (Nat × List Int)} {nb : Nat} (h : Good l img puts nb) (hl : img.length = 512 * nb) (hf : Fit nb puts) : Good l (flushZ img puts) [] nb := by
  intro q hq
  obtain ⟨a, b, c⟩ := h q hq
  refine ⟨a, b, ?_⟩
  rw [c, ← flush_seen puts img hl hf]
  rfl
theorem Good.nil (img : List Int) (puts : List (Nat × List Int)) (nb : Nat) : Good [] img puts nb := fun q hq => by cases hq

end Go.Proofs.Ytokgfnfgpjkpjaa
