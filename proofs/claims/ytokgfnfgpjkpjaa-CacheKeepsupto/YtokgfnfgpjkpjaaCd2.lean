/-
  A cache on its disk, alone: what its calls do.
-/
import Derived.Test.YtokgfnfgpjkpjaaCd1
namespace Go.Proofs.Ytokgfnfgpjkpjaa
open Go.RowKit

def Solo (B : Nat) (w0 w : World) (c p room nb m : Nat) (hi mi : Int) (l : List (Int × List Int)) (fu : Int) (off : Bool) : Prop := ∃ X Y img puts, CD X Y w c p room hi mi l img puts fu off nb ∧ Good l img puts nb ∧ puts.length ≤ m ∧ (∀ k, X k ∨ Y k → B ≤ k) ∧ B ≤ w.heap.size ∧ Below B w0 w
theorem Cst.nodup {X : Nat → Prop} {w : World} {c p room : Nat} {hi mi : Int} {l : List (Int × List Int)} (h : Cst X w c p room hi mi l) : (l.map (·.1)).Nodup ∧ l.length ≤ room ∧ 1 ≤ room := by
  obtain ⟨r, mp, n, es, f, Z, h1, rfl, h3, h4, h5, h6⟩ := h
  obtain ⟨D, hm, hD⟩ := h1.map
  refine ⟨?_, by rw [view_len]; exact h3, h4⟩
  have hn := (List.nodup_cons.1 h1.ring.1).2
  have : (view es f Z).map (·.1) = es.map (fun e => (f e).at_) := by unfold view; rw [List.map_map]; rfl
  rw [this]
  unfold List.Nodup at hn ⊢
  rw [List.pairwise_map]
  exact hn.imp_of_mem (fun {a b} ha hb hne e => hne (hD.uniq ha hb e))
theorem Solo.facts {B : Nat} {w0 w : World} {c p room nb m : Nat} {hi mi : Int} {l : List (Int × List Int)} {fu : Int} {off : Bool} (h : Solo B w0 w c p room nb m hi mi l fu off) : (l.map (·.1)).Nodup ∧ l.length ≤ room ∧ 1 ≤ room ∧ (∀ q ∈ l, 0 ≤ q.1 ∧ q.1 < nb) ∧ B ≤ w.heap.size ∧ Below B w0 w := by
  obtain ⟨X, Y, img, puts, h1, h2, h3, h4, h5, h6⟩ := h
  obtain ⟨q1, q2, q3⟩ := h1.ca.nodup
  exact ⟨q1, q2, q3, fun q hq => ⟨(h2 q hq).1, (h2 q hq).2.1⟩, h5, h6⟩
theorem Solo.below {B : Nat} {w0 w w' : World} {c p room nb m : Nat} {hi mi : Int} {l : List (Int × List Int)} {fu : Int} {off : Bool} (h : Solo B w0 w c p room nb m hi mi l fu off) (b : Below w.heap.size w w') : Solo B w0 w' c p room nb m hi mi l fu off := by
  obtain ⟨X, Y, img, puts, h1, h2, h3, h4, h5, h6⟩ := h
  exact ⟨_, _, img, puts, ⟨h1.ca.cut.keep (fun k _ hk => b.block k hk), h1.dk.cut.below b, fun k q q' => h1.dj k q.1 q'.1⟩, h2, h3, fun k q => h4 k (q.elim (fun q => .inl q.1) (fun q => .inr q.1)), Nat.le_trans h5 b.size, h6.trans (b.mono h5)⟩
theorem Solo.more {B : Nat} {w0 w : World} {c p room nb m : Nat} {hi mi : Int} {l : List (Int × List Int)} {fu : Int} {off : Bool} (h : Solo B w0 w c p room nb m hi mi l fu off) : Solo B w0 w c p room nb (m + 1) hi mi l fu off := by
  obtain ⟨X, Y, img, puts, h1, h2, h3, h4⟩ := h
  exact ⟨X, Y, img, puts, h1, h2, by omega, h4⟩
/-- behind a call: what was there belongs to whom it belonged -/
theorem Solo.of {B : Nat} {w0 w w' : World} {X Y X' Y' : Nat → Prop} {c p room nb m : Nat} {hi mi : Int} {l : List (Int × List Int)} {img : List Int} {puts : List (Nat × List Int)} {fu : Int} {off : Bool} (h4 : ∀ k, X k ∨ Y k → B ≤ k) (h5 : B ≤ w.heap.size) (h6 : Below B w0 w) (cd : CD X' Y' w' c p room hi mi l img puts fu off nb) (g : Grown X Y X' Y' w) (b : But (fun k => X k ∨ Y k) w w') (hg : Good l img puts nb) (hp : puts.length ≤ m) : Solo B w0 w' c p room nb m hi mi l fu off := by
  refine ⟨X', Y', img, puts, cd, hg, hp, fun k q => ?_, Nat.le_trans h5 b.size, h6.trans (b.below h5 (fun k hk q => by have := h4 k q; omega))⟩
  by_cases hk : k < w.heap.size
  · rcases q with q | q
    · exact h4 k (.inl ((g k hk).1 q))
    · exact h4 k (.inr ((g k hk).2 q))
  · omega
theorem Solo.shift {B : Nat} {w0 w w1 : World} {c p room nb m : Nat} {hi mi : Int} {l : List (Int × List Int)} {fu : Int} {off : Bool} (h : Solo B w0 w c p room nb m hi mi l fu off) (b1 : Below w.heap.size w w1) : ∃ X Y img puts, CD X Y w1 c p room hi mi l img puts fu off nb ∧ Good l img puts nb ∧ puts.length ≤ m ∧ (∀ k, X k ∨ Y k → B ≤ k ∧ k < w.heap.size) ∧ B ≤ w1.heap.size ∧ Below B w0 w1 := by
  obtain ⟨X, Y, img, puts, h1, h2, h3, h4, h5, h6⟩ := h
  exact ⟨_, _, img, puts, ⟨h1.ca.cut.keep (fun k _ hk => b1.block k hk), h1.dk.cut.below b1, fun k q q' => h1.dj k q.1 q'.1⟩, h2, h3, fun k q => q.elim (fun q => ⟨h4 k (.inl q.1), q.2⟩) (fun q => ⟨h4 k (.inr q.1), q.2⟩), Nat.le_trans h5 b1.size, h6.trans (b1.mono h5)⟩
/-- the blocks from S on that were there are as they were -/
def Fr (S : Nat) (w w' : World) : Prop := ∀ k, S ≤ k → k < w.heap.size → w'.heap[k]? = w.heap[k]?
def rdC (off : Bool) (nb : Nat) (x : Int) : Int := if off then 24 else if x < 0 ∨ (nb : Int) ≤ x then 22 else 0
theorem readR_code (img : List Int) (puts : List (Nat × List Int)) (off : Bool) (nb : Nat) (x : Int) : (readR img puts off nb x).1 = rdC off nb x := by
  unfold readR rdC
  split
  · rfl
  · split <;> rfl
theorem Solo.read {B : Nat} {w0 w w1 : World} {c p room nb m : Nat} {hi mi : Int} {l : List (Int × List Int)} {fu : Int} {off : Bool} (h : Solo B w0 w c p room nb m hi mi l fu off) (hm : m ≤ 1073741824) (b1 : Below w.heap.size w w1) {x : Int} (hwf : (Lit.int .i64 x).wf = true) (hhi : 0 ≤ hi ∧ hi < 4611686018427387904) (hmi : 0 ≤ mi ∧ mi < 4611686018427387904) :
    Calls Try.prog 8 #[.pointer (some ⟨c, 0, none⟩), .int .i64 x] w1 fun q w' => ∃ al cp Z, q = .returned (.tuple #[.slice al (if rdC off nb x = 0 then 512 else 0) cp, .int .i64 (rdC off nb x)]) ∧ Solo B w0 w' c p room nb m (hi + hitN l (rdC off nb x) x) (mi + missN l (rdC off nb x) x) (if rdC off nb x = 0 then holdL room l x Z else l) fu off ∧ Fr w.heap.size w1 w' := by
  obtain ⟨X, Y, img, puts, h1, h2, h3, h4, h5, h6⟩ := h.shift b1
  have hc := readR_code img puts off nb x
  have hlen : (readR img puts off nb x).2.length = if rdC off nb x = 0 then 512 else 0 := by
    rw [← hc]
    unfold readR
    split
    · rfl
    · split
      · rfl
      · exact (h1.dk.seen (by omega)).1
  refine Calls.mono (CRead_any h1 h2 (by omega) hwf hhi hmi) ?_
  rintro q w' ⟨al, cp, rfl, _, ⟨X', Y', cd, g⟩, b⟩
  have hG := h2.read room off x
  have hL : readL room l (readR img puts off nb x) x = if rdC off nb x = 0 then holdL room l x (readR img puts off nb x).2 else l := by unfold readL; rw [hc]
  rw [hL] at hG cd
  rw [hc] at cd
  exact ⟨al, cp, (readR img puts off nb x).2, by rw [hlen, hc], Solo.of (fun k q => (h4 k q).1) h5 h6 cd g b hG h3, fun k hk hl => b.block k hl (fun q => by have := h4 k q; omega)⟩
theorem Solo.write {B : Nat} {w0 w w1 : World} {c p room nb m : Nat} {hi mi : Int} {l : List (Int × List Int)} {fu : Int} {off : Bool} (h : Solo B w0 w c p room nb m hi mi l fu off) (hm : m ≤ 1073741823) (b1 : Below w.heap.size w w1) (x : Int) {al : Option Addr} (cp : Nat) {Z : List Int} (r1 : RdS B w.heap.size w1 al Z.length Z) :
    Calls Try.prog 10 #[.pointer (some ⟨c, 0, none⟩), .int .i64 x, .slice al Z.length cp] w1 fun e w' => e = .returned (.int .i64 (writeC off fu nb x Z.length)) ∧ Solo B w0 w' c p room nb (m + 1) hi mi (if writeC off fu nb x Z.length = 0 then holdL room l x Z else l) (writeF off fu nb x Z.length) (writeO off fu nb x Z.length) ∧ Fr w.heap.size w1 w' := by
  obtain ⟨X, Y, img, puts, h1, h2, h3, h4, h5, h6⟩ := h.shift b1
  refine Calls.mono (CWrite_any h1 (by omega) x al Z.length cp Z (r1.rdn (fun k q => h4 k (.inl q)))) ?_
  rintro e w' ⟨rfl, ⟨X', Y', cd, g⟩, b⟩
  have hG := h2.wrote room off fu x Z
  have hL : writeL room l off fu nb x Z = if writeC off fu nb x Z.length = 0 then holdL room l x Z else l := rfl
  rw [hL] at hG cd
  refine ⟨rfl, Solo.of (fun k q => (h4 k q).1) h5 h6 cd g b hG ?_, fun k hk hl => b.block k hl (fun q => by have := h4 k q; omega)⟩
  split
  · simp; omega
  · omega
theorem Solo.disk {B : Nat} {w0 w : World} {c p room nb m : Nat} {hi mi : Int} {l : List (Int × List Int)} {fu : Int} {off : Bool} (h : Solo B w0 w c p room nb m hi mi l fu off) : w.cell? ⟨c, 0, none⟩ = some (.pointer (some ⟨p, 0, none⟩)) ∧ c < w.heap.size := by
  obtain ⟨X, Y, img, puts, h1, h2, h3, h4, h5, h6⟩ := h
  obtain ⟨v2, v3, cg, _⟩ := h1.cg
  exact ⟨cg.cell 0, cg.lt⟩
theorem Solo.fuse {B : Nat} {w0 w w1 : World} {c p room nb m : Nat} {hi mi : Int} {l : List (Int × List Int)} {fu : Int} {off : Bool} (h : Solo B w0 w c p room nb m hi mi l fu off) (b1 : Below w.heap.size w w1) (x : Int) (hx : x ≤ 9223372036854775807) :
    Calls Try.prog 15 #[.pointer (some ⟨p, 0, none⟩), .int .i64 x] w1 fun e w' => ∃ C fu', e = .returned (.int .i64 C) ∧ Solo B w0 w' c p room nb m hi mi l fu' off ∧ Fr w.heap.size w1 w' ∧ w'.cell? ⟨c, 0, none⟩ = some (.pointer (some ⟨p, 0, none⟩)) := by
  obtain ⟨X, Y, img, puts, h1, h2, h3, h4, h5, h6⟩ := h.shift b1
  refine Calls.mono (Fuse_any h1.dk x hx) ?_
  rintro e w' ⟨rfl, d, b⟩
  obtain ⟨⟨X', Y', cd, g⟩, b'⟩ := h1.disk (d.mono (fun k q => .inl q)) b
  have hS := Solo.of (fun k q => (h4 k q).1) h5 h6 cd g b' h2 h3
  exact ⟨_, _, rfl, hS, fun k hk hl => b'.block k hl (fun q => by have := h4 k q; omega), hS.disk.1⟩
theorem Solo.forget {B : Nat} {w0 w w1 : World} {c p room nb m : Nat} {hi mi : Int} {l : List (Int × List Int)} {fu : Int} {off : Bool} (h : Solo B w0 w c p room nb m hi mi l fu off) (b1 : Below w.heap.size w w1) :
    Calls Try.prog 16 #[.pointer (some ⟨c, 0, none⟩)] w1 fun e w' => e = .returned (.int .i64 0) ∧ Solo B w0 w' c p room nb m hi mi [] fu off ∧ Fr w.heap.size w1 w' := by
  obtain ⟨X, Y, img, puts, h1, h2, h3, h4, h5, h6⟩ := h.shift b1
  obtain ⟨_, _, _, hYc⟩ := h1.cg
  have hc4 := h4 c (.inr hYc)
  refine Calls.mono (Forget_any h1.ca) ?_
  rintro e w' ⟨rfl, c1, b⟩
  refine ⟨rfl, ⟨fun k => X k ∧ k < w1.heap.size, _, img, puts, ⟨c1, h1.dk.cut.but b (fun k q q' => h1.dj c hYc (by rw [← q']; exact q.1)), fun k q q' => ?_⟩, Good.nil _ _ _, h3, fun k q => ?_, Nat.le_trans h5 b.size, h6.trans (b.below h5 (fun k hk q => by omega))⟩, fun k hk hl => b.block k hl (fun q => by omega)⟩
  · rcases q with q | q
    · exact h1.dj c hYc (by rw [← q]; exact q'.1)
    · omega
  · rcases q with q | q | q
    · exact (h4 k (.inl q.1)).1
    · omega
    · omega
theorem Solo.held {B : Nat} {w0 w : World} {c p room nb m : Nat} {hi mi : Int} {l : List (Int × List Int)} {fu : Int} {off : Bool} (h : Solo B w0 w c p room nb m hi mi l fu off) (hr : room ≤ 4096) :
    Calls Try.prog 17 #[.pointer (some ⟨c, 0, none⟩)] w fun q w' => ∃ al cp, q = .returned (.tuple #[.slice al l.length cp, .int .i64 0]) ∧ RdI w'.heap.size w' al l.length (l.map (·.1)) ∧ Below w.heap.size w w' := by
  obtain ⟨X, Y, img, puts, h1, h2, h3, h4, h5, h6⟩ := h
  refine Calls.mono (Held_any h1.ca hr) ?_
  rintro q w' ⟨al, cp, rfl, o, b⟩
  exact ⟨al, cp, rfl, o.rdi, b⟩
theorem Solo.counts {B : Nat} {w0 w : World} {c p room nb m : Nat} {hi mi : Int} {l : List (Int × List Int)} {fu : Int} {off : Bool} (h : Solo B w0 w c p room nb m hi mi l fu off) :
    Calls Try.prog 12 #[.pointer (some ⟨c, 0, none⟩)] w fun q w' => q = .returned (.tuple #[.int .i64 hi, .int .i64 mi, .int .i64 0]) ∧ Below w.heap.size w w' := by
  obtain ⟨X, Y, img, puts, h1, h2, h3, h4, h5, h6⟩ := h
  refine Calls.mono (Counts_any h1.ca) ?_
  rintro q w' ⟨rfl, rfl⟩
  exact ⟨rfl, (Below.refl _ _).drew⟩
theorem Solo.on {B : Nat} {w0 w : World} {c p room nb m : Nat} {hi mi : Int} {l : List (Int × List Int)} {fu : Int} {off : Bool} (h : Solo B w0 w c p room nb m hi mi l fu off) :
    Calls Try.prog 18 #[.pointer (some ⟨p, 0, none⟩)] w fun q w' => q = .returned (.bool (!off)) ∧ Below w.heap.size w w' := by
  obtain ⟨X, Y, img, puts, h1, h2, h3, h4, h5, h6⟩ := h
  exact On_any h1.dk
theorem holdL_last {room : Nat} (hr : 1 ≤ room) (l : List (Int × List Int)) (x : Int) (zs : List Int) : ∃ A, holdL room l x zs = A ++ [(x, zs)] := by
  unfold holdL
  split
  · rename_i h
    cases hF : l.filter (fun q => q.1 ≠ x) with
    | nil => rw [hF] at h; simp at h; omega
    | cons a t => exact ⟨t, rfl⟩
  · exact ⟨_, rfl⟩
theorem hits_sum (l : List (Int × List Int)) (cd x : Int) : hitN l cd x + missN l cd x = if cd = 0 then 1 else 0 := by
  unfold hitN missN
  by_cases h : cd = 0
  · by_cases h2 : inL l x
    · rw [if_pos ⟨h, h2⟩, if_neg (fun q => q.2 h2), if_pos h]; rfl
    · rw [if_neg (fun q => h2 q.2), if_pos ⟨h, h2⟩, if_pos h]; rfl
  · rw [if_neg (fun q => h q.1), if_neg (fun q => h q.1), if_neg h]; rfl
theorem hits_pos (l : List (Int × List Int)) (cd x : Int) : 0 ≤ hitN l cd x ∧ hitN l cd x ≤ 1 ∧ 0 ≤ missN l cd x ∧ missN l cd x ≤ 1 := by
  unfold hitN missN
  refine ⟨?_, ?_, ?_, ?_⟩ <;> split <;> omega

end Go.Proofs.Ytokgfnfgpjkpjaa
