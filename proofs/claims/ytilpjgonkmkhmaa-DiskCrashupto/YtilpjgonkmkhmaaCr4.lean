/-
  DiskCrash: blocks of an image; which writes stay.
-/
import Derived.Test.YtilpjgonkmkhmaaCr1
namespace Go.Proofs.Ytilpjgonkmkhmaa
open Go.RowKit

/-- block i of an image -/
def imgB (im : List Int) (i : Nat) : List Int := (im.drop (512 * i)).take 512
theorem get_splice {L cs : List Int} {o : Nat} (h : o + cs.length ≤ L.length) (j : Nat) : (splice L o cs)[j]? = if j < o then L[j]? else if j < o + cs.length then cs[j - o]? else L[j]? := by
  have hl : (L.take o).length = o := by simp; omega
  unfold splice
  by_cases h1 : j < o
  · rw [if_pos h1, List.getElem?_append_left (by omega), List.getElem?_take_of_lt h1]
  · rw [if_neg h1, List.getElem?_append_right (by omega), hl]
    by_cases h2 : j < o + cs.length
    · rw [if_pos h2, List.getElem?_append_left (by omega)]
    · rw [if_neg h2, List.getElem?_append_right (by omega), List.getElem?_drop]
      congr 1
      omega
theorem get_imgB (L : List Int) (i t : Nat) : (imgB L i)[t]? = if t < 512 then L[512 * i + t]? else none := by
  unfold imgB
  by_cases h : t < 512
  · rw [if_pos h, List.getElem?_take_of_lt h, List.getElem?_drop]
  · rw [if_neg h]
    exact List.getElem?_eq_none (by simp; omega)
theorem imgB_splice {im d : List Int} {nb x : Nat} (i : Nat) (hlen : im.length = 512 * nb) (hd : d.length = 512) (hx : x < nb) : imgB (splice im (x * 512) d) i = if i = x then d else imgB im i := by
  apply List.ext_getElem?
  intro t
  rw [get_imgB]
  by_cases ht : t < 512
  · rw [if_pos ht, get_splice (by omega)]
    by_cases e : i = x
    · subst e
      rw [if_neg (by omega), if_pos (by omega), if_pos rfl]
      congr 1
      omega
    · rw [if_neg e, get_imgB, if_pos ht]
      by_cases h1 : i < x
      · rw [if_pos (by omega)]
      · rw [if_neg (by omega), if_neg (by omega)]
  · rw [if_neg ht]
    by_cases e : i = x
    · rw [if_pos e]; exact (List.getElem?_eq_none (by omega)).symm
    · rw [if_neg e, get_imgB, if_neg ht]
theorem length_imgB {im : List Int} {nb i : Nat} (h : im.length = 512 * nb) (hi : i < nb) : (imgB im i).length = 512 := by unfold imgB; simp; omega
theorem isB_imgB {im : List Int} (h : Pl.isB im) (i : Nat) : Pl.isB (imgB im i) := fun z hz => h z (List.mem_of_mem_drop (List.mem_of_mem_take hz))
/-- writes that fit -/
def Fit (nb : Nat) (puts : List (Nat × List Int)) : Prop := ∀ q ∈ puts, q.1 < nb ∧ q.2.length = 512 ∧ Pl.isB q.2
theorem flush_seen {nb x : Nat} (puts : List (Nat × List Int)) : ∀ (img : List Int), img.length = 512 * nb → Fit nb puts → imgB (flushZ img puts) x = seenZ img puts x := by
  induction puts with
  | nil => intro img _ _; rfl
  | cons q r ih =>
    intro img hl hf
    obtain ⟨f1, f2, _⟩ := hf q (by simp)
    have e1 : flushZ img (q :: r) = flushZ (splice img (q.1 * 512) q.2) r := rfl
    rw [e1, ih _ (by rw [length_splice _ _ _ (by omega)]; exact hl) (fun q' h => hf q' (by simp [h]))]
    have e2 : seenZ (splice img (q.1 * 512) q.2) r x = r.foldl (fun s q => if q.1 = x then q.2 else s) (imgB (splice img (q.1 * 512) q.2) x) := rfl
    have e3 : seenZ img (q :: r) x = r.foldl (fun s q => if q.1 = x then q.2 else s) (if q.1 = x then q.2 else imgB img x) := rfl
    rw [e2, e3, imgB_splice x hl f2 f1]
    congr 1
    by_cases e : x = q.1
    · rw [if_pos e, if_pos e.symm]
    · rw [if_neg e, if_neg (fun h => e h.symm)]
theorem layP_len {nb : Nat} {puts : List (Nat × List Int)} (hf : Fit nb puts) {im : List Int} (hl : im.length = 512 * nb) (k : Int) : (layP puts im k).length = 512 * nb := by
  unfold layP
  by_cases h : k.toNat < puts.length
  · have e : puts.getD k.toNat (0, []) = puts[k.toNat] := by simp [h]
    obtain ⟨f1, f2, _⟩ := hf _ (List.getElem_mem h)
    rw [e, length_splice _ _ _ (by omega), hl]
  · have e : puts.getD k.toNat (0, []) = (0, []) := by simp [show puts.length ≤ k.toNat by omega]
    rw [e]
    simp [splice, hl]
theorem crash_len {nb : Nat} {puts : List (Nat × List Int)} (hf : Fit nb puts) (ks : List Int) : ∀ {im : List Int}, im.length = 512 * nb → (crashZ im puts ks).length = 512 * nb := by
  induction ks with
  | nil => intro im h; exact h
  | cons k r ih => intro im h; exact ih (layP_len hf h k)
theorem crash_snoc (img : List Int) (puts : List (Nat × List Int)) (ks : List Int) (k : Nat) {q : Nat × List Int} (h : puts[k]? = some q) : crashZ img puts (ks ++ [(k : Int)]) = splice (crashZ img puts ks) (q.1 * 512) q.2 := by
  have e : puts.getD k (0, []) = q := by rw [List.getD_eq_getElem?_getD, h]; rfl
  unfold crashZ
  rw [List.foldl_append]
  simp only [List.foldl_cons, List.foldl_nil, layP, Int.toNat_natCast, e]
/-- the places below m that f holds -/
def sel (f : Nat → Bool) (m : Nat) : List Int := ((List.range m).filter f).map fun (i : Nat) => (i : Int)
theorem sel_succ (f : Nat → Bool) (m : Nat) : sel f (m + 1) = if f m then sel f m ++ [(m : Int)] else sel f m := by
  unfold sel
  rw [List.range_succ, List.filter_append, List.map_append]
  by_cases h : f m
  · rw [if_pos h]; simp [h]
  · rw [if_neg h]; simp [h]
theorem sel_all (m : Nat) : (sel (fun _ => true) m).length = m := by
  unfold sel
  rw [List.filter_eq_self.2 (fun _ _ => rfl), List.length_map, List.length_range]
theorem sel_len (f : Nat → Bool) (m : Nat) : (sel f m).length ≤ m := by
  have := List.length_filter_le f (List.range m)
  simpa [sel] using this
theorem sel_good (f : Nat → Bool) (n : Nat) : ∀ m, m ≤ n → GoodK n (sel f m) ∧ ∀ i, i < (sel f m).length → (sel f m).getD i 0 < (m : Int) := by
  intro m
  induction m with
  | zero => intro _; exact ⟨fun i h => by simp [sel] at h, fun i h => by simp [sel] at h⟩
  | succ m ih =>
    intro hm
    obtain ⟨h1, h2⟩ := ih (by omega)
    rw [sel_succ]
    by_cases hf : f m
    · rw [if_pos hf]
      have lo : ∀ i, i < (sel f m).length → (sel f m ++ [(m : Int)]).getD i 0 = (sel f m).getD i 0 := fun i hi => by
        rw [List.getD_eq_getElem?_getD, List.getElem?_append_left hi, ← List.getD_eq_getElem?_getD]
      have hi : (sel f m ++ [(m : Int)]).getD (sel f m).length 0 = (m : Int) := by
        rw [List.getD_eq_getElem?_getD, List.getElem?_append_right (Nat.le_refl _), Nat.sub_self]; rfl
      have hl : (sel f m ++ [(m : Int)]).length = (sel f m).length + 1 := by simp
      generalize hN : (sel f m).length = N at *
      refine ⟨fun i h => ?_, fun i h => ?_⟩
      · by_cases e : i < N
        · have := h1 i (by omega)
          unfold leastK at this ⊢
          rw [lo i e]
          by_cases e0 : i = 0
          · rw [if_pos e0] at this ⊢; exact this
          · rw [if_neg e0] at this ⊢; rw [lo (i - 1) (by omega)]; exact this
        · obtain rfl : i = N := by omega
          unfold leastK
          rw [hi]
          by_cases e0 : i = 0
          · rw [if_pos e0]; omega
          · rw [if_neg e0, lo (i - 1) (by omega)]
            have := h2 (i - 1) (by omega)
            omega
      · by_cases e : i < N
        · rw [lo i e]; have := h2 i e; omega
        · obtain rfl : i = N := by omega
          rw [hi]; omega
    · rw [if_neg hf]
      exact ⟨h1, fun i h => by have := h2 i h; omega⟩
theorem sel_places (f : Nat → Bool) (n : Nat) : placesC n (sel f n) = 0 := if_pos (sel_good f n n (Nat.le_refl _)).1
theorem crash_all (img : List Int) (puts : List (Nat × List Int)) : crashZ img puts (sel (fun _ => true) puts.length) = flushZ img puts := by
  have key : ∀ k, k ≤ puts.length → crashZ img puts (sel (fun _ => true) k) = flushZ img (puts.take k) := by
    intro k
    induction k with
    | zero => intro _; rfl
    | succ k ih =>
      intro hk
      rw [sel_succ, if_pos rfl, crash_snoc img puts _ k (List.getElem?_eq_getElem hk), ih (by omega)]
      unfold flushZ
      rw [fold_snoc _ _ _ hk]
  have := key puts.length (Nat.le_refl _)
  rw [List.take_length] at this
  exact this
/-- a write that a job makes -/
def jput (nb : Nat) (d : JobD) : Nat × List Int := (into nb d.at_, blkZ d.fi)
theorem last_step {nb : Nat} {L : List JobD} {k la : Nat} {d : JobD} (hd : L[k]? = some d) (hla : la ≤ k) (h : (jobsZ nb (L.take k)).2 = ((L.take k).drop la).map (jput nb)) :
    (jobsZ nb (L.take (k + 1))).2 = ((L.take (k + 1)).drop (if d.fl then k + 1 else la)).map (jput nb) := by
  obtain ⟨h1, h2⟩ := List.getElem?_eq_some_iff.1 hd
  rw [jobsZ_snoc nb L k d hd]
  unfold jstep
  by_cases hf : d.fl
  · rw [if_pos hf, if_pos hf, List.drop_eq_nil_of_le (by simp; omega)]
    rfl
  · rw [if_neg hf, if_neg hf, List.take_succ_eq_append_getElem h1, h2, List.drop_append_of_le_length (by simp; omega), List.map_append, ← h]
    rfl
set_option maxRecDepth 100000 in
theorem fit_jput {nb : Nat} (h0 : 0 < nb) (L : List JobD) : Fit nb (L.map (jput nb)) := by
  intro q hq
  obtain ⟨d, _, rfl⟩ := List.mem_map.1 hq
  have e1 : (jput nb d).1 = into nb d.at_ := rfl
  have e2 : (jput nb d).2 = blkZ d.fi := rfl
  rw [e1, e2]
  exact ⟨into_lt _ h0, length_blkZ d.fi, isB_blkZ d.fi⟩

set_option maxHeartbeats 400000 in
/-- block(image, i), of a block that is there -/
theorem block_any (g off n c i : Nat) (w : World) (hi : 512 * (i + 1) ≤ n) (hn : n ≤ 268435456) (hc : n ≤ c) :
    Calls Try.prog 17 #[.slice (some ⟨g, off, none⟩) n c, .int .i64 (i : Int)] w fun e w' => e = .returned (.slice (some ⟨g, off + 512 * i, none⟩) 512 (c - 512 * i)) ∧ w' = w := by
  have a1 : ¬ ((i : Int) < 0) := by omega
  have a2 : ¬ ((n : Int) < 512 * ((i : Int) + 1)) := by omega
  have a3 : 512 * ((i : Int) + 1) ≤ (c : Int) := by omega
  go_enter Try.func17, Try.ntmps17
  go_wp2
  go_ret
  refine ⟨?_, rfl⟩
  show Ending.returned (.slice (some ⟨g, off + 512 * i, none⟩) (512 * (i + 1) - 512 * i) (c - 512 * i)) = _
  rw [show 512 * (i + 1) - 512 * i = 512 by omega]

end Go.Proofs.Ytilpjgonkmkhmaa
