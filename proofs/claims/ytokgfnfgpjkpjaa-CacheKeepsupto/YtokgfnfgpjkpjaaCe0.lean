/-
  CacheKeeps: which blocks are held.
-/
import Derived.Test.YtokgfnfgpjkpjaaCd2
namespace Go.Proofs.Ytokgfnfgpjkpjaa
open Go.RowKit

/-- the numbers held, behind a use of x -/
def holdK (room : Nat) (K : List Int) (x : Int) : List Int :=
  if room < (K.filter (fun y => y ≠ x) ++ [x]).length then (K.filter (fun y => y ≠ x) ++ [x]).tail else K.filter (fun y => y ≠ x) ++ [x]
theorem holdL_keys (room : Nat) (l : List (Int × List Int)) (x : Int) (zs : List Int) : (holdL room l x zs).map (·.1) = holdK room (l.map (·.1)) x := by
  have e1 : (l.filter (fun q => q.1 ≠ x) ++ [(x, zs)]).map (·.1) = (l.map (·.1)).filter (fun y => y ≠ x) ++ [x] := by
    rw [List.map_append, List.filter_map]
    rfl
  have e2 : (l.filter (fun q => q.1 ≠ x) ++ [(x, zs)]).length = ((l.map (·.1)).filter (fun y => y ≠ x) ++ [x]).length := by
    rw [← e1, List.length_map]
  unfold holdL holdK
  rw [← e2, ← e1]
  split
  · rw [List.map_tail]
  · rfl
/-- at stands among the held, and behind it just those that were used; or it does not, and all that are held were used -/
def Jk (size : Nat) (at_ : Int) (K U : List Int) : Prop := (∃ A B, K = A ++ at_ :: B ∧ ∀ x, x ∈ B ↔ x ∈ U) ∨ (at_ ∉ K ∧ K.length = size ∧ ∀ x ∈ K, x ∈ U)
theorem filter_len (x : Int) : ∀ (K : List Int), K.Nodup → K.length ≤ (K.filter (fun y => y ≠ x)).length + 1
  | [], _ => Nat.zero_le _
  | a :: t, h => by
    obtain ⟨h1, h2⟩ := List.nodup_cons.1 h
    by_cases e : a = x
    · have ht : t.filter (fun y => y ≠ x) = t := List.filter_eq_self.2 (fun y hy => by
        have : y ≠ x := fun q => h1 (by rw [e, ← q]; exact hy)
        simpa using this)
      rw [List.filter_cons_of_neg (by simp [e]), ht]
      simp
    · have := filter_len x t h2
      rw [List.filter_cons_of_pos (by simpa using e)]
      simp only [List.length_cons]
      omega
theorem filter_le (x : Int) (K : List Int) : (K.filter (fun y => y ≠ x)).length ≤ K.length := List.length_filter_le _ _
theorem filter_mem {x y : Int} {K : List Int} : y ∈ K.filter (fun y => y ≠ x) ↔ y ∈ K ∧ y ≠ x := by
  rw [List.mem_filter]
  simp
theorem Jk.other {size : Nat} {at_ x : Int} {K U : List Int} (h : Jk size at_ K U) (hn : K.Nodup) (hl : K.length ≤ size) (hx : x ≠ at_) : Jk size at_ (holdK size K x) (U ++ [x]) := by
  have hF : (K.filter (fun y => y ≠ x) ++ [x]).length = (K.filter (fun y => y ≠ x)).length + 1 := by simp
  have hle := filter_le x K
  rcases h with ⟨A, B, rfl, hB⟩ | ⟨h1, h2, h3⟩
  · have hfil : (A ++ at_ :: B).filter (fun y => y ≠ x) ++ [x] = A.filter (fun y => y ≠ x) ++ at_ :: (B.filter (fun y => y ≠ x) ++ [x]) := by
      rw [List.filter_append, List.filter_cons_of_pos (by simpa using fun e => hx e.symm)]
      simp
    have hmem : ∀ y, y ∈ B.filter (fun y => y ≠ x) ++ [x] ↔ y ∈ U ++ [x] := fun y => by
      rw [List.mem_append, List.mem_append, filter_mem, List.mem_singleton, hB]
      by_cases e : y = x
      · simp [e]
      · simp [e]
    obtain ⟨_, n2, _⟩ := List.nodup_append.1 hn
    have haB : at_ ∉ B := (List.nodup_cons.1 n2).1
    unfold holdK
    rw [hfil] at hF ⊢
    split
    · rename_i hlt
      cases hA : A.filter (fun y => y ≠ x) with
      | nil =>
        rw [hA] at hF hlt
        refine .inr ⟨fun q => ?_, ?_, fun y hy => (hmem y).1 hy⟩
        · rcases List.mem_append.1 q with q | q
          · exact haB (filter_mem.1 q).1
          · exact hx (List.mem_singleton.1 q).symm
        · simp only [List.nil_append, List.length_cons, List.tail_cons] at hF hlt ⊢
          omega
      | cons a t => exact .inl ⟨t, _, rfl, hmem⟩
    · exact .inl ⟨_, _, rfl, hmem⟩
  · have hge := filter_len x K hn
    have hmem : ∀ y, y ∈ K.filter (fun y => y ≠ x) ++ [x] → y ∈ U ++ [x] := fun y hy => by
      rcases List.mem_append.1 hy with q | q
      · exact List.mem_append.2 (.inl (h3 y (filter_mem.1 q).1))
      · exact List.mem_append.2 (.inr q)
    have hna : at_ ∉ K.filter (fun y => y ≠ x) ++ [x] := fun q => by
      rcases List.mem_append.1 q with q | q
      · exact h1 (filter_mem.1 q).1
      · exact hx (List.mem_singleton.1 q).symm
    unfold holdK
    split
    · rename_i hlt
      exact .inr ⟨fun q => hna (List.mem_of_mem_tail q), by rw [List.length_tail]; omega, fun y hy => hmem y (List.mem_of_mem_tail hy)⟩
    · exact .inr ⟨hna, by omega, hmem⟩
theorem Jk.here (size : Nat) (at_ : Int) (K : List Int) (hs : 1 ≤ size) : Jk size at_ (holdK size K at_) [] := by
  refine .inl ?_
  unfold holdK
  split
  · rename_i hlt
    cases hA : K.filter (fun y => y ≠ at_) with
    | nil => rw [hA] at hlt; simp at hlt; omega
    | cons a t => exact ⟨t, [], rfl, fun x => Iff.rfl⟩
  · exact ⟨_, [], rfl, fun x => Iff.rfl⟩
/-- so the question is answered -/
theorem Jk.told {size : Nat} {at_ : Int} {K U : List Int} (h : Jk size at_ K U) (hn : K.Nodup) (hl : K.length ≤ size) : (unlikeN U at_ U.length < size ↔ at_ ∈ K) := by
  rw [← dd_len]
  have hm : ∀ x, x ∈ dd U at_ U.length ↔ x ∈ U ∧ x ≠ at_ := fun x => by rw [dd_mem (Nat.le_refl _), List.take_length]
  rcases h with ⟨A, B, rfl, hB⟩ | ⟨h1, h2, h3⟩
  · obtain ⟨_, n2, _⟩ := List.nodup_append.1 hn
    have hle : (dd U at_ U.length).length ≤ B.length := nodup_le (dd_nodup (Nat.le_refl _)) (fun x hx => (hB x).2 ((hm x).1 hx).1)
    simp at hl ⊢
    omega
  · have hge : K.length ≤ (dd U at_ U.length).length := nodup_le hn (fun x hx => (hm x).2 ⟨h3 x hx, fun e => h1 (e ▸ hx)⟩)
    exact ⟨fun q => by omega, fun q => absurd q h1⟩

/-! ### the cache, and blocks that are none of its -/
def Kst (N : Nat → Prop) (B : Nat) (w0 w : World) (c p room m : Nat) (hi mi : Int) (l : List (Int × List Int)) : Prop := ∃ X Y img puts, CD X Y w c p room hi mi l img puts (-1) false 32 ∧ Good l img puts 32 ∧ puts.length ≤ m ∧ (∀ k, X k ∨ Y k → B ≤ k ∧ ¬ N k) ∧ B ≤ w.heap.size ∧ Below B w0 w
theorem Kst.move {N N' : Nat → Prop} {B : Nat} {w0 w w' : World} {c p room m : Nat} {hi mi : Int} {l : List (Int × List Int)} (h : Kst N B w0 w c p room m hi mi l) (hs : w.heap.size ≤ w'.heap.size) (hk : ∀ k, k < w.heap.size → ¬ N k → w'.heap[k]? = w.heap[k]?) (hb : Below B w w') (hN : ∀ k, k < w.heap.size → N' k → N k) : Kst N' B w0 w' c p room m hi mi l := by
  obtain ⟨X, Y, img, puts, h1, h2, h3, h4, h5, h6⟩ := h
  exact ⟨fun k => X k ∧ k < w.heap.size, fun k => Y k ∧ k < w.heap.size, img, puts, ⟨h1.ca.cut.keep (fun k q hl => hk k hl (h4 k (.inr q.1)).2), h1.dk.cut.keep (fun k q hl => hk k hl (h4 k (.inl q.1)).2), fun k q q' => h1.dj k q.1 q'.1⟩, h2, h3, fun k q => q.elim (fun q => ⟨(h4 k (.inl q.1)).1, fun n => (h4 k (.inl q.1)).2 (hN k q.2 n)⟩) (fun q => ⟨(h4 k (.inr q.1)).1, fun n => (h4 k (.inr q.1)).2 (hN k q.2 n)⟩), Nat.le_trans h5 hs, h6.trans hb⟩
theorem Kst.below {N : Nat → Prop} {B : Nat} {w0 w w' : World} {c p room m : Nat} {hi mi : Int} {l : List (Int × List Int)} (h : Kst N B w0 w c p room m hi mi l) (b : Below w.heap.size w w') : Kst N B w0 w' c p room m hi mi l :=
  h.move b.size (fun k hk _ => b.block k hk) (b.mono (by obtain ⟨_, _, _, _, _, _, _, _, h5, _⟩ := h; exact h5)) (fun _ _ q => q)
theorem Kst.facts {N : Nat → Prop} {B : Nat} {w0 w : World} {c p room m : Nat} {hi mi : Int} {l : List (Int × List Int)} (h : Kst N B w0 w c p room m hi mi l) : (l.map (·.1)).Nodup ∧ (l.map (·.1)).length ≤ room ∧ 1 ≤ room ∧ B ≤ w.heap.size ∧ Below B w0 w := by
  obtain ⟨X, Y, img, puts, h1, h2, h3, h4, h5, h6⟩ := h
  obtain ⟨q1, q2, q3⟩ := h1.ca.nodup
  exact ⟨q1, by rw [List.length_map]; exact q2, q3, h5, h6⟩
theorem Kst.more {N : Nat → Prop} {B : Nat} {w0 w : World} {c p room m : Nat} {hi mi : Int} {l : List (Int × List Int)} (h : Kst N B w0 w c p room m hi mi l) : Kst N B w0 w c p room (m + 1) hi mi l := by
  obtain ⟨X, Y, img, puts, h1, h2, h3, h4⟩ := h
  exact ⟨X, Y, img, puts, h1, h2, by omega, h4⟩
theorem Kst.counts {N : Nat → Prop} {B : Nat} {w0 w : World} {c p room m : Nat} {hi mi : Int} {l : List (Int × List Int)} (h : Kst N B w0 w c p room m hi mi l) :
    Calls Try.prog 12 #[.pointer (some ⟨c, 0, none⟩)] w fun q w' => q = .returned (.tuple #[.int .i64 hi, .int .i64 mi, .int .i64 0]) ∧ Below w.heap.size w w' := by
  obtain ⟨X, Y, img, puts, h1, h2, h3, h4, h5, h6⟩ := h
  refine Calls.mono (Counts_any h1.ca) ?_
  rintro q w' ⟨rfl, rfl⟩
  exact ⟨rfl, (Below.refl _ _).drew⟩
theorem Kst.of {N : Nat → Prop} {B : Nat} {w0 w w' : World} {X Y X' Y' : Nat → Prop} {c p room m : Nat} {hi mi : Int} {l : List (Int × List Int)} {img : List Int} {puts : List (Nat × List Int)} (h4 : ∀ k, X k ∨ Y k → B ≤ k ∧ ¬ N k) (h5 : B ≤ w.heap.size) (h6 : Below B w0 w) (hN : ∀ k, N k → k < w.heap.size) (cd : CD X' Y' w' c p room hi mi l img puts (-1) false 32) (g : Grown X Y X' Y' w) (b : But (fun k => X k ∨ Y k) w w') (hg : Good l img puts 32) (hp : puts.length ≤ m) : Kst N B w0 w' c p room m hi mi l ∧ (∀ k, N k → w'.heap[k]? = w.heap[k]?) ∧ w.heap.size ≤ w'.heap.size := by
  refine ⟨⟨X', Y', img, puts, cd, hg, hp, fun k q => ?_, Nat.le_trans h5 b.size, h6.trans (b.below h5 (fun k hk q => by have := h4 k q; omega))⟩, fun k hk => b.block k (hN k hk) (fun q => (h4 k q).2 hk), b.size⟩
  by_cases hk : k < w.heap.size
  · rcases q with q | q
    · exact h4 k (.inl ((g k hk).1 q))
    · exact h4 k (.inr ((g k hk).2 q))
  · exact ⟨by omega, fun n => hk (hN k n)⟩
theorem Kst.read {N : Nat → Prop} {B : Nat} {w0 w : World} {c p room m : Nat} {hi mi : Int} {l : List (Int × List Int)} (h : Kst N B w0 w c p room m hi mi l) (hN : ∀ k, N k → k < w.heap.size) (hm : m ≤ 1073741824) {x : Nat} (hx : x < 32) (hhi : 0 ≤ hi ∧ hi < 4611686018427387904) (hmi : 0 ≤ mi ∧ mi < 4611686018427387904) :
    Calls Try.prog 8 #[.pointer (some ⟨c, 0, none⟩), .int .i64 (x : Int)] w fun q w' => ∃ al cp Z, q = .returned (.tuple #[.slice al 512 cp, .int .i64 0]) ∧ Kst N B w0 w' c p room m (hi + hitN l 0 x) (mi + missN l 0 x) (holdL room l x Z) ∧ (∀ k, N k → w'.heap[k]? = w.heap[k]?) ∧ w.heap.size ≤ w'.heap.size := by
  obtain ⟨X, Y, img, puts, h1, h2, h3, h4, h5, h6⟩ := h
  have hr : readR img puts false 32 (x : Int) = (0, seenZ img puts x) := by
    unfold readR
    rw [if_neg (by simp), if_neg (by omega), Int.toNat_natCast]
  have hlen := (h1.dk.seen hx).1
  have hG := h2.read room false (x : Int)
  have hC := CRead_any h1 h2 (by omega) (wf_small (x := (x : Int)) (by omega) (by omega)) hhi hmi
  rw [hr] at hC hG
  refine Calls.mono hC ?_
  rintro q w' ⟨al, cp, rfl, _, ⟨X', Y', cd, g⟩, b⟩
  have hL : readL room l (0, seenZ img puts x) (x : Int) = holdL room l x (seenZ img puts x) := by unfold readL; rw [if_pos rfl]
  rw [hL] at cd hG
  exact ⟨al, cp, seenZ img puts x, by simp only [hlen], Kst.of h4 h5 h6 hN cd g b hG h3⟩
theorem Kst.write {N : Nat → Prop} {B : Nat} {w0 w w1 : World} {c p room m : Nat} {hi mi : Int} {l : List (Int × List Int)} (h : Kst N B w0 w c p room m hi mi l) (hN : ∀ k, N k → k < w.heap.size) (hm : m ≤ 1073741823) {x : Nat} (hx : x < 32) (b1 : Below w.heap.size w w1) {g : Nat} {Z : List Int} (hg : w.heap.size ≤ g) (hb : Blk .u8 5 w1 g Z) (hl : Z.length = 512) (hZ : Pl.isB Z) :
    Calls Try.prog 10 #[.pointer (some ⟨c, 0, none⟩), .int .i64 (x : Int), .slice (some ⟨g, 0, none⟩) 512 512] w1 fun e w' => e = .returned (.int .i64 0) ∧ Kst N B w0 w' c p room (m + 1) hi mi (holdL room l x Z) ∧ (∀ k, N k → w'.heap[k]? = w1.heap[k]?) ∧ w1.heap.size ≤ w'.heap.size := by
  obtain ⟨X, Y, img, puts, h1, h2, h3, h4, h5, h6⟩ := h
  have s1 := b1.size
  have cd1 : CD (fun k => X k ∧ k < w.heap.size) (fun k => Y k ∧ k < w.heap.size) w1 c p room hi mi l img puts (-1) false 32 := ⟨h1.ca.cut.keep (fun k _ hk => b1.block k hk), h1.dk.cut.below b1, fun k q q' => h1.dj k q.1 q'.1⟩
  have hR : RdN (fun k => X k ∧ k < w.heap.size) w1 (some ⟨g, 0, none⟩) 512 Z := by
    have := RdN.of_blk (X := fun k => X k ∧ k < w.heap.size) hb hZ (fun q => by omega)
    rw [hl] at this
    exact this
  have hw : writeC false (-1) 32 (x : Int) 512 = 0 := by
    unfold writeC
    rw [if_neg (by simp), if_neg (by omega), if_neg (by simp)]
    rfl
  have hF : writeF false (-1) 32 (x : Int) 512 = -1 := by unfold writeF; rw [if_pos ⟨rfl, by omega, rfl⟩]; rfl
  have hO : writeO false (-1) 32 (x : Int) 512 = false := by unfold writeO; rw [if_pos ⟨rfl, by omega, rfl⟩]; rfl
  have hC := CWrite_any cd1 (by omega) (x : Int) (some ⟨g, 0, none⟩) 512 512 Z hR
  have hG := h2.wrote room false (-1) (x : Int) Z
  have hL : writeL room l false (-1) 32 (x : Int) Z = holdL room l x Z := by unfold writeL; rw [hl, hw, if_pos rfl]
  rw [hL, hw, hF, hO, if_pos rfl] at hC
  rw [hL, hl, hw, if_pos rfl] at hG
  refine Calls.mono hC ?_
  rintro e w' ⟨rfl, ⟨X', Y', cd, g'⟩, b⟩
  exact ⟨rfl, Kst.of (fun k q => h4 k (q.elim (fun q => .inl q.1) (fun q => .inr q.1))) (Nat.le_trans h5 s1) (h6.trans (b1.mono h5)) (fun k q => Nat.lt_of_lt_of_le (hN k q) s1) cd g' b hG (by simp; omega)⟩

end Go.Proofs.Ytokgfnfgpjkpjaa
