/-
  The program's side of the desk: one disk and two caches on it.
-/
import Derived.Test.YtfadnmdmohabmaaCfa
import Derived.Test.YtfadnmdmohabmaaDkc
import Derived.Test.YtfadnmdmohabmaaRud
import Derived.Test.YtfadnmdmohabmaaCbb
import Derived.ArgAppend
import Derived.OwnWalk
namespace Go.Proofs.Ytfadnmdmohabmaa
open Go.RowKit

/-- a cache, as the document tells it -/
structure CS where
  room : Nat
  us : Us
  hi : Int
  mi : Int
/-- a disk, as the document tells it -/
structure Ds where
  img : List Int
  puts : List (Nat × List Int)
  fu : Int
  off : Bool
def PCa (Y : Nat → Prop) (w : World) (p : Nat) (cv : Value) : Option CS → Prop
  | none => cv = .pointer none
  | some s => ∃ c, cv = .pointer (some ⟨c, 0, none⟩) ∧ Cst Y w c p s.room s.hi s.mi (heldU s.room s.us)
theorem PCa.keep {Y : Nat → Prop} {w w' : World} {p : Nat} {cv : Value} {s : Option CS} (h : PCa Y w p cv s) (hk : ∀ k, Y k → k < w.heap.size → w'.heap[k]? = w.heap[k]?) : PCa Y w' p cv s := by
  cases s with
  | none => exact h
  | some s =>
    obtain ⟨c, e, h⟩ := h
    exact ⟨c, e, h.keep hk⟩
def Ps (P : Nat → Prop) (w : World) (p : Nat) (c0 c1 : Value) (D : Ds) (nb : Nat) (s0 s1 : Option CS) : Prop :=
  ∃ X Y0 Y1 : Nat → Prop, (∀ k, X k → P k ∧ k < w.heap.size ∧ ¬ Y0 k ∧ ¬ Y1 k) ∧ (∀ k, Y0 k → P k ∧ k < w.heap.size ∧ ¬ Y1 k) ∧ (∀ k, Y1 k → P k ∧ k < w.heap.size) ∧ Dk X w p D.img D.puts D.fu D.off nb ∧ PCa Y0 w p c0 s0 ∧ PCa Y1 w p c1 s1
theorem Ps.swap {P : Nat → Prop} {w : World} {p : Nat} {c0 c1 : Value} {D : Ds} {nb : Nat} {s0 s1 : Option CS} (h : Ps P w p c0 c1 D nb s0 s1) : Ps P w p c1 c0 D nb s1 s0 := by
  obtain ⟨X, Y0, Y1, hX, h0, h1, hd, hc0, hc1⟩ := h
  exact ⟨X, Y1, Y0, fun k q => ⟨(hX k q).1, (hX k q).2.1, (hX k q).2.2.2, (hX k q).2.2.1⟩, fun k q => ⟨(h1 k q).1, (h1 k q).2, fun q0 => (h0 k q0).2.2 q⟩, fun k q => ⟨(h0 k q).1, (h0 k q).2.1⟩, hd, hc1, hc0⟩
theorem Ps.mono {P P' : Nat → Prop} {w : World} {p : Nat} {c0 c1 : Value} {D : Ds} {nb : Nat} {s0 s1 : Option CS} (h : Ps P w p c0 c1 D nb s0 s1) (hP : ∀ k, k < w.heap.size → P k → P' k) : Ps P' w p c0 c1 D nb s0 s1 := by
  obtain ⟨X, Y0, Y1, hX, h0, h1, hd, hc0, hc1⟩ := h
  exact ⟨X, Y0, Y1, fun k q => ⟨hP k (hX k q).2.1 (hX k q).1, (hX k q).2⟩, fun k q => ⟨hP k (h0 k q).2.1 (h0 k q).1, (h0 k q).2⟩, fun k q => ⟨hP k (h1 k q).2 (h1 k q).1, (h1 k q).2⟩, hd, hc0, hc1⟩
theorem Ps.but {P U : Nat → Prop} {w w' : World} {p : Nat} {c0 c1 : Value} {D : Ds} {nb : Nat} {s0 s1 : Option CS} (h : Ps P w p c0 c1 D nb s0 s1) (hb : But U w w') (hu : ∀ k, k < w.heap.size → P k → ¬ U k) : Ps P w' p c0 c1 D nb s0 s1 := by
  obtain ⟨X, Y0, Y1, hX, h0, h1, hd, hc0, hc1⟩ := h
  have hs := hb.size
  refine ⟨X, Y0, Y1, fun k q => ⟨(hX k q).1, by have := (hX k q).2.1; omega, (hX k q).2.2⟩, fun k q => ⟨(h0 k q).1, by have := (h0 k q).2.1; omega, (h0 k q).2.2⟩, fun k q => ⟨(h1 k q).1, by have := (h1 k q).2; omega⟩, hd.keep (fun k q hk => hb.block k hk (hu k hk (hX k q).1)), hc0.keep (fun k q hk => hb.block k hk (hu k hk (h0 k q).1)), hc1.keep (fun k q hk => hb.block k hk (hu k hk (h1 k q).1))⟩
theorem Ps.below {P : Nat → Prop} {w w' : World} {p : Nat} {c0 c1 : Value} {D : Ds} {nb : Nat} {s0 s1 : Option CS} (h : Ps P w p c0 c1 D nb s0 s1) (hb : Below w.heap.size w w') : Ps P w' p c0 c1 D nb s0 s1 := h.but (But.of_below (X := fun _ => False) hb) (fun _ _ _ q => q)
theorem Ps.facts {P : Nat → Prop} {w : World} {p : Nat} {c0 c1 : Value} {D : Ds} {nb : Nat} {s0 s1 : Option CS} (h : Ps P w p c0 c1 D nb s0 s1) : Pl.isB D.img ∧ D.img.length = 512 * nb ∧ (∀ q ∈ D.puts, Pl.isB q.2) ∧ nb ≤ 524288 := by
  obtain ⟨X, Y0, Y1, hX, h0, h1, hd, hc0, hc1⟩ := h
  exact hd.facts
/-- behind a call of the first cache -/
theorem Ps.of_cd {P P' X Y0 Y1 X' Y' : Nat → Prop} {w w' : World} {p c : Nat} {c1 : Value} {D : Ds} {nb : Nat} {s0 : CS} {s1 : Option CS} (hX : ∀ k, X k → P k ∧ k < w.heap.size ∧ ¬ Y0 k ∧ ¬ Y1 k) (h0 : ∀ k, Y0 k → P k ∧ k < w.heap.size ∧ ¬ Y1 k) (h1 : ∀ k, Y1 k → P k ∧ k < w.heap.size) (hc1 : PCa Y1 w p c1 s1)
    (hcd : CD X' Y' w' c p s0.room s0.hi s0.mi (heldU s0.room s0.us) D.img D.puts D.fu D.off nb) (hg : Grown X Y0 X' Y' w) (hb : But (fun k => X k ∨ Y0 k) w w') (hP0 : ∀ k, X' k → P' k) (hP1 : ∀ k, Y' k → P' k) (hP2 : ∀ k, Y1 k → P' k) :
    Ps P' w' p (.pointer (some ⟨c, 0, none⟩)) c1 D nb (some s0) s1 := by
  have hs := hb.size
  have a1 : ∀ k, X' k → ¬ Y1 k := fun k q q1 => (hX k ((hg k (h1 k q1).2).1 q)).2.2.2 q1
  have a2 : ∀ k, Y' k → ¬ Y1 k := fun k q q1 => (h0 k ((hg k (h1 k q1).2).2 q)).2.2 q1
  refine ⟨fun k => X' k ∧ k < w'.heap.size, fun k => Y' k ∧ k < w'.heap.size, Y1, fun k q => ⟨hP0 k q.1, q.2, fun q' => hcd.dj k q'.1 q.1, a1 k q.1⟩, fun k q => ⟨hP1 k q.1, q.2, a2 k q.1⟩, fun k q => ⟨hP2 k q, by have := (h1 k q).2; omega⟩, hcd.dk.cut, ⟨c, rfl, hcd.ca.cut⟩, hc1.keep (fun k q hk => hb.block k hk (fun q' => ?_))⟩
  rcases q' with q' | q'
  · exact (hX k q').2.2.2 q
  · exact (h0 k q').2.2 q

/-- bounds -/
def OkC (K nb : Nat) : Option CS → Prop
  | none => True
  | some s => 1 ≤ s.room ∧ s.room ≤ 4096 ∧ s.us.length ≤ K ∧ 0 ≤ s.hi ∧ s.hi ≤ K ∧ 0 ≤ s.mi ∧ s.mi ≤ K ∧ ∀ q ∈ s.us, 0 ≤ q.1 ∧ q.1 < (nb : Int)
def rdA (s : Option CS) (D : Ds) (nb : Nat) (k : Int) : Int × List Int :=
  match s with
  | none => (1, [])
  | some s => readS (heldU s.room s.us) D.img D.puts D.off nb k
def rdS (s : Option CS) (D : Ds) (nb : Nat) (k : Int) : Option CS :=
  s.map fun s => ⟨s.room, if (readS (heldU s.room s.us) D.img D.puts D.off nb k).1 = 0 then s.us ++ [(k, (readS (heldU s.room s.us) D.img D.puts D.off nb k).2)] else s.us, s.hi + hitN (heldU s.room s.us) (readS (heldU s.room s.us) D.img D.puts D.off nb k).1 k, s.mi + missN (heldU s.room s.us) (readS (heldU s.room s.us) D.img D.puts D.off nb k).1 k⟩
theorem Ps.read {P : Nat → Prop} {w : World} {p : Nat} {c0 c1 : Value} {D : Ds} {nb K : Nat} {s0 s1 : Option CS} (h : Ps P w p c0 c1 D nb s0 s1) (hK : K ≤ 16777215) (ok : OkC K nb s0) (hp : D.puts.length ≤ K) {k : Int} (hwf : (Lit.int .i64 k).wf = true) :
    Calls Try.prog 12 #[c0, .int .i64 k] w fun e w' => ∃ al cp, e = .returned (.tuple #[.slice al (rdA s0 D nb k).2.length cp, .int .i64 (rdA s0 D nb k).1]) ∧
      ((al = none ∧ cp = 0 ∧ (rdA s0 D nb k).2 = []) ∨ ∃ g, al = some ⟨g, 0, none⟩ ∧ w.heap.size ≤ g ∧ Own w' g (rdA s0 D nb k).2.length cp (rdA s0 D nb k).2) ∧ Pl.isB (rdA s0 D nb k).2 ∧
      Ps (fun y => (P y ∨ w.heap.size ≤ y) ∧ al ≠ some ⟨y, 0, none⟩) w' p c0 c1 D nb (rdS s0 D nb k) s1 ∧ But P w w' := by
  obtain ⟨X, Y0, Y1, hX, h0, h1, hd, hc0, hc1⟩ := h
  cases s0 with
  | none =>
    obtain rfl : c0 = .pointer none := hc0
    refine Calls.mono (CRead_nil w k) ?_
    rintro e w' ⟨rfl, rfl⟩
    exact ⟨none, 0, rfl, .inl ⟨rfl, rfl, rfl⟩, Pl.isB_nil, ⟨X, Y0, Y1, fun k q => ⟨⟨.inl (hX k q).1, by simp⟩, (hX k q).2⟩, fun k q => ⟨⟨.inl (h0 k q).1, by simp⟩, (h0 k q).2⟩, fun k q => ⟨⟨.inl (h1 k q).1, by simp⟩, (h1 k q).2⟩, hd, rfl, hc1⟩, But.refl _ _⟩
  | some s =>
    obtain ⟨c, rfl, hc0⟩ := hc0
    obtain ⟨o1, o2, o3, o4, o5, o6, o7, o8⟩ := ok
    have hcd : CD X Y0 w c p s.room s.hi s.mi (heldU s.room s.us) D.img D.puts D.fu D.off nb := ⟨hc0, hd, fun k q q' => (hX k q').2.2.1 q⟩
    refine Calls.mono (CRead_full2 hcd (fun k q => (h0 k q).2.1) (by omega) hwf ⟨o4, by omega⟩ ⟨o6, by omega⟩) ?_
    rintro e w' ⟨al, cp, rfl, hal, ⟨X', Y', t1, t2, t3⟩, hb, hB⟩
    have hal' : ∀ y, al = some ⟨y, 0, none⟩ → w.heap.size ≤ y := fun y e => by
      rcases hal with ⟨q, _⟩ | ⟨g, q, q2, _⟩
      · rw [q] at e; cases e
      · rw [q] at e; cases e; exact q2
    have hL : readL s.room (heldU s.room s.us) (readS (heldU s.room s.us) D.img D.puts D.off nb k) k = heldU s.room (if (readS (heldU s.room s.us) D.img D.puts D.off nb k).1 = 0 then s.us ++ [(k, (readS (heldU s.room s.us) D.img D.puts D.off nb k).2)] else s.us) := by
      unfold readL
      split
      · rw [heldU_push o1]
      · rfl
    rw [hL] at t1
    refine ⟨al, cp, rfl, hal, hB, Ps.of_cd (s0 := ⟨s.room, _, _, _⟩) hX h0 h1 hc1 t1 t2 hb (fun y q => ⟨?_, fun e => (t3 y e).1 q⟩) (fun y q => ⟨?_, fun e => (t3 y e).2 q⟩) (fun y q => ⟨.inl (h1 y q).1, fun e => by have := hal' y e; have := (h1 y q).2; omega⟩), hb.mono (fun y _ q => q.elim (fun q => (hX y q).1) (fun q => (h0 y q).1))⟩
    · by_cases hy : y < w.heap.size
      · exact .inl (hX y ((t2 y hy).1 q)).1
      · exact .inr (by omega)
    · by_cases hy : y < w.heap.size
      · exact .inl (h0 y ((t2 y hy).2 q)).1
      · exact .inr (by omega)
def wrC (s : Option CS) (D : Ds) (nb : Nat) (k : Int) (n : Nat) : Int :=
  match s with
  | none => 1
  | some _ => writeC D.off D.fu nb k n
def wrD (s : Option CS) (D : Ds) (nb : Nat) (k : Int) (n : Nat) (zs : List Int) : Ds :=
  match s with
  | none => D
  | some _ => ⟨D.img, if writeC D.off D.fu nb k n = 0 then D.puts ++ [(k.toNat, zs)] else D.puts, writeF D.off D.fu nb k n, writeO D.off D.fu nb k n⟩
def wrS (s : Option CS) (D : Ds) (nb : Nat) (k : Int) (n : Nat) (zs : List Int) : Option CS :=
  s.map fun s => ⟨s.room, if writeC D.off D.fu nb k n = 0 then s.us ++ [(k, zs)] else s.us, s.hi, s.mi⟩

end Go.Proofs.Ytfadnmdmohabmaa

/-
  The program's side of the desk: Write, Flush, Held, Counts, Forget; the disk's own calls.
-/
namespace Go.Proofs.Ytfadnmdmohabmaa
open Go.RowKit

theorem CWrite_any {X Y : Nat → Prop} {w : World} {c p room : Nat} {hi mi : Int} {l : List (Int × List Int)} {img : List Int} {puts : List (Nat × List Int)} {fu : Int} {off : Bool} {nb : Nat} (h : CD X Y w c p room hi mi l img puts fu off nb) (hl : puts.length ≤ 1073741823) (x : Int) (ad : Option Addr) (n cp : Nat) (zs : List Int) (hR : RdN X w ad n zs) :
    Calls Try.prog 15 #[.pointer (some ⟨c, 0, none⟩), .int .i64 x, .slice ad n cp] w fun e w' => e = .returned (.int .i64 (writeC off fu nb x n)) ∧ (∃ X' Y', CD X' Y' w' c p room hi mi (if writeC off fu nb x n = 0 then holdL room l x zs else l) img (if writeC off fu nb x n = 0 then puts ++ [(x.toNat, zs)] else puts) (writeF off fu nb x n) (writeO off fu nb x n) nb ∧ Grown X Y X' Y' w) ∧ But (fun k => X k ∨ Y k) w w' := by
  by_cases hz : writeC off fu nb x n = 0
  · obtain ⟨hof, hx0, hx1, hn⟩ : off = false ∧ 0 ≤ x ∧ x < nb ∧ n = 512 := by
      unfold writeC at hz
      split at hz
      · omega
      · split at hz
        · omega
        · split at hz
          · omega
          · exact ⟨by simpa using ‹¬ off = true›, by omega, by omega, by omega⟩
    have hF : writeF off fu nb x n = burnF fu := by unfold writeF; rw [if_pos ⟨hof, by omega, hn⟩]
    have hO : writeO off fu nb x n = burnO fu off := by unfold writeO; rw [if_pos ⟨hof, by omega, hn⟩]
    rw [if_pos hz, if_pos hz, hF, hO, hz]
    exact CWrite_ok h hl x ad n cp zs hR hz
  · rw [if_neg hz, if_neg hz]
    exact CWrite_bad h hl x ad n cp zs hR hz
theorem Ps.write {P : Nat → Prop} {w : World} {p : Nat} {c0 c1 : Value} {D : Ds} {nb K : Nat} {s0 s1 : Option CS} (h : Ps P w p c0 c1 D nb s0 s1) (hK : K ≤ 16777215) (ok : OkC K nb s0) (hp : D.puts.length ≤ K) (k : Int) (ad : Option Addr) (n c : Nat) (zs : List Int) (hR : RdN P w ad n zs) :
    Calls Try.prog 15 #[c0, .int .i64 k, .slice ad n c] w fun e w' => e = .returned (.int .i64 (wrC s0 D nb k n)) ∧ Ps (fun y => P y ∨ w.heap.size ≤ y) w' p c0 c1 (wrD s0 D nb k n zs) nb (wrS s0 D nb k n zs) s1 ∧ But P w w' := by
  obtain ⟨X, Y0, Y1, hX, h0, h1, hd, hc0, hc1⟩ := h
  cases s0 with
  | none =>
    obtain rfl : c0 = .pointer none := hc0
    refine Calls.mono (CWrite_nil w k _) ?_
    rintro e w' ⟨rfl, rfl⟩
    exact ⟨rfl, ⟨X, Y0, Y1, fun k q => ⟨.inl (hX k q).1, (hX k q).2⟩, fun k q => ⟨.inl (h0 k q).1, (h0 k q).2⟩, fun k q => ⟨.inl (h1 k q).1, (h1 k q).2⟩, hd, rfl, hc1⟩, But.refl _ _⟩
  | some s =>
    obtain ⟨cc, rfl, hc0⟩ := hc0
    obtain ⟨o1, o2, o3, o4, o5, o6, o7, o8⟩ := ok
    have hcd : CD X Y0 w cc p s.room s.hi s.mi (heldU s.room s.us) D.img D.puts D.fu D.off nb := ⟨hc0, hd, fun k q q' => (hX k q').2.2.1 q⟩
    refine Calls.mono (CWrite_any hcd (by omega) k ad n c zs (hR.mono (fun y _ q => (hX y q).1))) ?_
    rintro e w' ⟨rfl, ⟨X', Y', t1, t2⟩, hb⟩
    have hL : (if writeC D.off D.fu nb k n = 0 then holdL s.room (heldU s.room s.us) k zs else heldU s.room s.us) = heldU s.room (if writeC D.off D.fu nb k n = 0 then s.us ++ [(k, zs)] else s.us) := by
      split
      · rw [heldU_push o1]
      · rfl
    rw [hL] at t1
    refine ⟨rfl, Ps.of_cd (D := ⟨_, _, _, _⟩) (s0 := ⟨s.room, _, s.hi, s.mi⟩) hX h0 h1 hc1 t1 t2 hb (fun y q => ?_) (fun y q => ?_) (fun y q => .inl (h1 y q).1), hb.mono (fun y _ q => q.elim (fun q => (hX y q).1) (fun q => (h0 y q).1))⟩
    · by_cases hy : y < w.heap.size
      · exact .inl (hX y ((t2 y hy).1 q)).1
      · exact .inr (by omega)
    · by_cases hy : y < w.heap.size
      · exact .inl (h0 y ((t2 y hy).2 q)).1
      · exact .inr (by omega)
/-- behind a call of the disk itself -/
theorem Ps.of_dk {P X Y0 Y1 : Nat → Prop} {w w' : World} {p : Nat} {c0 c1 : Value} {D : Ds} {nb : Nat} {s0 s1 : Option CS} (hX : ∀ k, X k → P k ∧ k < w.heap.size ∧ ¬ Y0 k ∧ ¬ Y1 k) (h0 : ∀ k, Y0 k → P k ∧ k < w.heap.size ∧ ¬ Y1 k) (h1 : ∀ k, Y1 k → P k ∧ k < w.heap.size) (hc0 : PCa Y0 w p c0 s0) (hc1 : PCa Y1 w p c1 s1)
    (hd : Dk (fun y => X y ∨ w.heap.size ≤ y) w' p D.img D.puts D.fu D.off nb) (hb : But X w w') : Ps (fun y => P y ∨ w.heap.size ≤ y) w' p c0 c1 D nb s0 s1 ∧ But P w w' := by
  have hs := hb.size
  refine ⟨⟨fun k => (X k ∨ w.heap.size ≤ k) ∧ k < w'.heap.size, Y0, Y1, fun k q => ⟨q.1.imp (fun q => (hX k q).1) id, q.2, ?_, ?_⟩, fun k q => ⟨.inl (h0 k q).1, by have := (h0 k q).2.1; omega, (h0 k q).2.2⟩, fun k q => ⟨.inl (h1 k q).1, by have := (h1 k q).2; omega⟩, hd.cut, hc0.keep (fun k q hk => hb.block k hk (fun q' => (hX k q').2.2.1 q)), hc1.keep (fun k q hk => hb.block k hk (fun q' => (hX k q').2.2.2 q))⟩, hb.mono (fun k _ q => (hX k q).1)⟩
  · intro q'
    rcases q.1 with q1 | q1
    · exact (hX k q1).2.2.1 q'
    · have := (h0 k q').2.1; omega
  · intro q'
    rcases q.1 with q1 | q1
    · exact (hX k q1).2.2.2 q'
    · have := (h1 k q').2; omega
def flC (s : Option CS) (D : Ds) : Int :=
  match s with
  | none => 1
  | some _ => flushC D.off D.fu
def flD (s : Option CS) (D : Ds) : Ds :=
  match s with
  | none => D
  | some _ => ⟨if flushC D.off D.fu = 0 then flushZ D.img D.puts else D.img, if flushC D.off D.fu = 0 then [] else D.puts, afterF D.off D.fu, afterO D.off D.fu⟩
theorem Ps.flush {P : Nat → Prop} {w : World} {p : Nat} {c0 c1 : Value} {D : Ds} {nb K : Nat} {s0 s1 : Option CS} (h : Ps P w p c0 c1 D nb s0 s1) (hK : K ≤ 16777215) (hp : D.puts.length ≤ K) :
    Calls Try.prog 17 #[c0] w fun e w' => e = .returned (.int .i64 (flC s0 D)) ∧ Ps (fun y => P y ∨ w.heap.size ≤ y) w' p c0 c1 (flD s0 D) nb s0 s1 ∧ But P w w' := by
  obtain ⟨X, Y0, Y1, hX, h0, h1, hd, hc0, hc1⟩ := h
  cases s0 with
  | none =>
    obtain rfl : c0 = .pointer none := hc0
    refine Calls.mono (CFlush_nil w) ?_
    rintro e w' ⟨rfl, rfl⟩
    exact ⟨rfl, ⟨X, Y0, Y1, fun k q => ⟨.inl (hX k q).1, (hX k q).2⟩, fun k q => ⟨.inl (h0 k q).1, (h0 k q).2⟩, fun k q => ⟨.inl (h1 k q).1, (h1 k q).2⟩, hd, rfl, hc1⟩, But.refl _ _⟩
  | some s =>
    obtain ⟨cc, rfl, hc0⟩ := hc0
    obtain ⟨v2, v3, hg, _⟩ := hc0.cg
    refine Calls.mono (Flush_disk hg (R := fun y w' => y = flushC D.off D.fu ∧ Ps (fun y => P y ∨ w.heap.size ≤ y) w' p (.pointer (some ⟨cc, 0, none⟩)) c1 (flD (some s) D) nb (some s) s1 ∧ But P w w') (Calls.mono (Flush_any hd (by omega)) ?_)) ?_
    · rintro e w' ⟨rfl, hk, hb⟩
      exact ⟨_, rfl, rfl, Ps.of_dk (D := ⟨_, _, _, _⟩) hX h0 h1 ⟨cc, rfl, hc0⟩ hc1 hk hb⟩
    · rintro e w' ⟨y, rfl, rfl, h⟩
      exact ⟨rfl, h⟩
def cntA (s : Option CS) : Int × Int × Int :=
  match s with
  | none => (0, 0, 1)
  | some s => (s.hi, s.mi, 0)
theorem Ps.counts {P : Nat → Prop} {w : World} {p : Nat} {c0 c1 : Value} {D : Ds} {nb : Nat} {s0 s1 : Option CS} (h : Ps P w p c0 c1 D nb s0 s1) :
    Calls Try.prog 14 #[c0] w fun e w' => e = .returned (.tuple #[.int .i64 (cntA s0).1, .int .i64 (cntA s0).2.1, .int .i64 (cntA s0).2.2]) ∧ Below w.heap.size w w' := by
  obtain ⟨X, Y0, Y1, hX, h0, h1, hd, hc0, hc1⟩ := h
  cases s0 with
  | none =>
    obtain rfl : c0 = .pointer none := hc0
    refine Calls.mono (CCounts_nil w) ?_
    rintro e w' ⟨rfl, rfl⟩
    exact ⟨rfl, Below.refl _ _⟩
  | some s =>
    obtain ⟨cc, rfl, hc0⟩ := hc0
    refine Calls.mono (Counts_any hc0) ?_
    rintro e w' ⟨rfl, rfl⟩
    exact ⟨rfl, (Below.refl _ _).drew⟩
def fgC (s : Option CS) : Int :=
  match s with
  | none => 1
  | some _ => 0
def fgS (s : Option CS) : Option CS := s.map fun s => ⟨s.room, [], s.hi, s.mi⟩
theorem Ps.forget {P : Nat → Prop} {w : World} {p : Nat} {c0 c1 : Value} {D : Ds} {nb : Nat} {s0 s1 : Option CS} (h : Ps P w p c0 c1 D nb s0 s1) :
    Calls Try.prog 18 #[c0] w fun e w' => e = .returned (.int .i64 (fgC s0)) ∧ Ps (fun y => P y ∨ w.heap.size ≤ y) w' p c0 c1 D nb (fgS s0) s1 ∧ But P w w' := by
  obtain ⟨X, Y0, Y1, hX, h0, h1, hd, hc0, hc1⟩ := h
  cases s0 with
  | none =>
    obtain rfl : c0 = .pointer none := hc0
    refine Calls.mono (CForget_nil w) ?_
    rintro e w' ⟨rfl, rfl⟩
    exact ⟨rfl, ⟨X, Y0, Y1, fun k q => ⟨.inl (hX k q).1, (hX k q).2⟩, fun k q => ⟨.inl (h0 k q).1, (h0 k q).2⟩, fun k q => ⟨.inl (h1 k q).1, (h1 k q).2⟩, hd, rfl, hc1⟩, But.refl _ _⟩
  | some s =>
    obtain ⟨cc, rfl, hc0⟩ := hc0
    obtain ⟨v2, v3, _, hYc, _⟩ := hc0.cg
    refine Calls.mono (Forget_any hc0) ?_
    rintro e w' ⟨rfl, hk, hb⟩
    have hs := hb.size
    have nX : ∀ k, X k → k ≠ cc := fun k q e => (hX k q).2.2.1 (by rw [e]; exact hYc)
    have n1 : ∀ k, Y1 k → k ≠ cc := fun k q e => (h0 cc hYc).2.2 (by rw [← e]; exact q)
    have hcl := (h0 cc hYc).2.1
    refine ⟨rfl, ⟨X, fun k => (k = cc ∨ w.heap.size ≤ k) ∧ k < w'.heap.size, Y1, fun k q => ⟨.inl (hX k q).1, by have := (hX k q).2.1; omega, fun q' => ?_, (hX k q).2.2.2⟩, fun k q => ⟨?_, q.2, fun q' => ?_⟩, fun k q => ⟨.inl (h1 k q).1, by have := (h1 k q).2; omega⟩, hd.keep (fun k q hk => hb.block k hk (nX k q)), ⟨cc, rfl, hk.cut⟩, hc1.keep (fun k q hk => hb.block k hk (n1 k q))⟩, hb.mono (fun k _ q => by rw [q]; exact (h0 cc hYc).1)⟩
    · have := (hX k q).2.1
      rcases q'.1 with e | e
      · exact nX k q e
      · omega
    · rcases q.1 with e | e
      · exact .inl (by rw [e]; exact (h0 cc hYc).1)
      · exact .inr e
    · have := (h1 k q').2
      rcases q.1 with e | e
      · exact n1 k q' e
      · omega

end Go.Proofs.Ytfadnmdmohabmaa

/-
  Package cache: Held, its list full.
-/
namespace Go.Proofs.Ytfadnmdmohabmaa
open Go.RowKit Go.ChangeMaps

theorem blk_of_full {B : Nat} {w : World} {g n : Nat} {zs : List Int} (h : OwI B w (.slice (some ⟨g, 0, none⟩) n n) n zs) : Blk .i64 3 w g zs := by
  have hl := h.len
  rcases h.2 with ⟨h1, _⟩ | ⟨g', cap, cur, hv, _, h2, h3, h4, h5, h6⟩
  · cases h1
  · cases hv
    have e : cur.toList = zs.map (Value.int .i64) := by
      have h7 : cur.toList.take n = zs.map (Value.int .i64) := by simpa using h6
      rw [List.take_of_length_le (by have : cur.size = n := by simpa using h5
                                     simp; omega)] at h7
      exact h7
    unfold Blk
    rw [h2, ← e]
set_option maxRecDepth 100000 in
set_option maxHeartbeats 2000000 in
theorem Held_full {X : Nat → Prop} {w : World} {c p room : Nat} {hi mi : Int} {l : List (Int × List Int)} (h : Cst X w c p room hi mi l) (hr : room ≤ 4096) :
    Calls Try.prog 13 #[.pointer (some ⟨c, 0, none⟩)] w fun q w' => ∃ g, q = .returned (.tuple #[.slice (some ⟨g, 0, none⟩) l.length l.length, .int .i64 0]) ∧ w.heap.size ≤ g ∧ Blk .i64 3 w' g (l.map (·.1)) ∧ Below w.heap.size w w' := by
  obtain ⟨r, mp, n, es, f, Z, h1, rfl, h3, h4, h5, h6⟩ := h
  have hvl : (view es f Z).length = es.length := view_len es f Z
  have hvm : (view es f Z).map (·.1) = es.map (fun e => (f e).at_) := by unfold view; rw [List.map_map]; rfl
  rw [hvl, hvm]
  obtain ⟨D, hm, hD⟩ := h1.map
  obtain ⟨x0, x1, x2, x3, x4, x5⟩ := h1.blk.cells
  have hcl := h1.blk.lt
  have hlen := fun ty => World.ownsMap.len hm Try.underlying55 ty
  have hlend := fun ty => World.ownsMap.len (ownsMap_keep (w' := w.drew) hm rfl) Try.underlying55 ty
  rw [hD.size] at hlen hlend
  obtain ⟨i3, hi3, hz3, hs3, hb3⟩ := info_parts infoI
  have HE : Hid (∀ k, k ≤ es.length → EnB w (rat es r k) (f (rat es r k)) ∧ w.cell? ⟨rat es r k, 0, none⟩ = some (.int .i64 (f (rat es r k)).at_) ∧ w.cell? ⟨rat es r k, 3, none⟩ = some (.pointer (some ⟨(f (rat es r k)).af, 0, none⟩))) := fun k hk => by
    have hmem : rat es r k ∈ r :: es := by
      by_cases hk2 : k < es.length
      · exact List.mem_cons_of_mem _ (h1.ring.off hk2).1
      · rw [show k = es.length by omega, rat_end]; simp
    exact ⟨h1.ens _ hmem, (h1.ens _ hmem).cells.1, (h1.ens _ hmem).cells.2.2.2⟩
  have HR := hid h1.ring
  have r3 := (h1.ens r (by simp)).cells.2.2.2
  rw [h1.ring.start] at r3
  have HEr := hid (h1.ens r (by simp))
  have hrl := (h1.ens r (by simp)).lt
  clear h1 hm hD hvl hvm h6
  obtain ⟨w1, hmk, ho1, hg1⟩ := run_make_own (P := Try.prog) w w.heap.size 43 3 i3 (.int .i64 0) 1 Try.underlying43 hi3 hz3 hs3 .i64 .i64 es.length (by rw [hb3]; omega) (by unfold maxLen; omega) (Nat.le_refl _)
  have b1 : Below w.heap.size w w1 := ⟨hg1.os, hg1.tape, hg1.output, hg1.size, fun k hk => hg1.block k hk (by simp)⟩
  have y2 := (b1.cell (p := ⟨c, 2, none⟩) hcl).trans x2
  have t3 := (b1.cell (p := ⟨r, 3, none⟩) hrl).trans r3
  have H1 := hid (And.intro ho1 b1)
  clear ho1 hg1 b1
  go_enter Try.func13, Try.ntmps13
  go_wp2_with fail
  clear y2 t3 hmk hlen hlend x3
  go_loopw [4, 5] (fun v q wt => ∃ k : Nat, k ≤ es.length ∧ q = .pointer (some ⟨rat es r k, 0, none⟩) ∧ v = .slice (some ⟨w.heap.size, 0, none⟩) k es.length ∧ OwI w.heap.size wt v k ((es.map (fun e => (f e).at_)).take k) ∧ Below w.heap.size w wt) (fun v _ _ => es.length - sLen v)
  case atStart => exact ⟨0, Nat.zero_le _, rfl, rfl, H1.out.1, H1.out.2⟩
  case round =>
    clear H1
    obtain ⟨k, hk, rfl, rfl, hO, hbt⟩ := hrel
    have z2 := (hbt.cell (p := ⟨c, 2, none⟩) hcl).trans x2
    by_cases hkn : k < es.length
    · obtain ⟨heb, e0, e3⟩ := HE.out k hk
      have hel := heb.lt
      have hqq := neq_other (HR.out.off hkn).2 ((hbt.block _ hel).trans heb) ((hbt.block r hrl).trans HEr.out)
      clear heb
      have c0 := (hbt.cell (p := ⟨rat es r k, 0, none⟩) hel).trans e0
      rw [HR.out.go hkn] at e3
      have hne := (HR.out.off hkn).2
      have hst : (es.map (fun e => (f e).at_)).take (k + 1) = (es.map (fun e => (f e).at_)).take k ++ [(f (rat es r k)).at_] := by
        rw [List.take_succ_eq_append_getElem (by simpa using hkn), rat_lt hkn]
        simp
      generalize (f (rat es r k)).at_ = x at *
      have HOa := hid (hO.alloc (.cells #[.int .i64 x] 3))
      have Hst := hid hst
      have Hbt := hid hbt
      have hws : w.heap.size ≤ wr.heap.size := hbt.size
      have HX := hid (And.intro hel e3)
      generalize rat es r k = y at *
      clear hst hO hbt e0 e3
      go_wp2_with (at_builtin; refine wpList_append_fits _ rfl _ _ 43 (by rfl) w.heap.size 3 i3 1 Try.underlying43 hi3 hs3 w.heap.size k es.length (((es.map (fun e => (f e).at_)).take k).map (Value.int .i64)) (by rfl) HOa.out ⟨wr.heap.size, 0, none⟩ 1 1 [.int .i64 x] (by rfl) (by rfl) (by exact newsV1c _ _ _ rfl) (by intro u hu; simp at hu; subst hu; rfl) (by omega) ?_)
      intro w6 ho4 hg4
      have HO4 := hid ho4
      have hb4 := (Hbt.out.alloc hws (.cells #[.int .i64 x] 3)).grown hg4 (by simp; omega) (fun x e => (by cases e; exact Nat.le_refl _))
      have d3 := (hb4.cell (p := ⟨y, 3, none⟩) HX.out.1).trans HX.out.2
      have HB4 := hid hb4
      clear ho4 hg4 c0 hb4 z2
      go_wp2_with fail
      go_roundw
      case rel => exact ⟨k + 1, by omega, rfl, rfl, by rw [Hst.out]; unfold OwI; rw [List.map_append, List.map_take, List.map_map]; exact HO4.out, HB4.out⟩
      case measure => simp [sLen]; omega
    · obtain rfl : k = es.length := by omega
      have Hbt := hid hbt
      have HO := hid hO
      have hqq := neq_same wr ⟨r, 0, none⟩
      rw [rat_end] at *
      clear hO hbt
      go_wp2
      go_ret2
      have ho := HO.out
      rw [List.take_of_length_le (by simp)] at ho
      exact ⟨w.heap.size, rfl, Nat.le_refl _, blk_of_full ho, Hbt.out⟩


end Go.Proofs.Ytfadnmdmohabmaa

/-
  The program's side of the desk: Held; the disk's own calls.
-/
namespace Go.Proofs.Ytfadnmdmohabmaa
open Go.RowKit

def hdA (s : Option CS) : Int × List Int :=
  match s with
  | none => (1, [])
  | some s => (0, (heldU s.room s.us).map (·.1))
theorem Ps.held {P : Nat → Prop} {w : World} {p : Nat} {c0 c1 : Value} {D : Ds} {nb K : Nat} {s0 s1 : Option CS} (h : Ps P w p c0 c1 D nb s0 s1) (ok : OkC K nb s0) :
    Calls Try.prog 13 #[c0] w fun e w' => ∃ al, e = .returned (.tuple #[.slice al (hdA s0).2.length (hdA s0).2.length, .int .i64 (hdA s0).1]) ∧ ((al = none ∧ (hdA s0).2 = []) ∨ ∃ g, al = some ⟨g, 0, none⟩ ∧ w.heap.size ≤ g ∧ Blk .i64 3 w' g (hdA s0).2) ∧ Below w.heap.size w w' := by
  obtain ⟨X, Y0, Y1, hX, h0, h1, hd, hc0, hc1⟩ := h
  cases s0 with
  | none =>
    obtain rfl : c0 = .pointer none := hc0
    refine Calls.mono (CHeld_nil w) ?_
    rintro e w' ⟨rfl, rfl⟩
    exact ⟨none, rfl, .inl ⟨rfl, rfl⟩, Below.refl _ _⟩
  | some s =>
    obtain ⟨cc, rfl, hc0⟩ := hc0
    refine Calls.mono (Held_full hc0 ok.2.1) ?_
    rintro e w' ⟨g, rfl, h1, h2, h3⟩
    have e : (hdA (some s)).2.length = (heldU s.room s.us).length := by simp [hdA]
    rw [e]
    exact ⟨_, rfl, .inr ⟨g, rfl, h1, h2⟩, h3⟩
/-- the disk of a cache -/
theorem Ps.cell {P : Nat → Prop} {w : World} {p c : Nat} {c1 : Value} {D : Ds} {nb : Nat} {s0 s1 : Option CS} (h : Ps P w p (.pointer (some ⟨c, 0, none⟩)) c1 D nb s0 s1) : w.cell? ⟨c, 0, none⟩ = some (.pointer (some ⟨p, 0, none⟩)) ∧ c < w.heap.size ∧ P c ∧ s0 ≠ none := by
  obtain ⟨X, Y0, Y1, hX, h0, h1, hd, hc0, hc1⟩ := h
  cases s0 with
  | none => cases hc0
  | some s =>
    obtain ⟨cc, e, hc0⟩ := hc0
    cases e
    obtain ⟨v2, v3, hg, hY, _⟩ := hc0.cg
    exact ⟨hg.cell 0, (h0 c hY).2.1, (h0 c hY).1, by simp⟩
theorem Ps.nil {P : Nat → Prop} {w : World} {p : Nat} {c0 c1 : Value} {D : Ds} {nb : Nat} {s0 s1 : Option CS} (h : Ps P w p c0 c1 D nb s0 s1) : (c0 = .pointer none ∧ s0 = none) ∨ ∃ c, c0 = .pointer (some ⟨c, 0, none⟩) := by
  obtain ⟨X, Y0, Y1, hX, h0, h1, hd, hc0, hc1⟩ := h
  cases s0 with
  | none => exact .inl ⟨hc0, rfl⟩
  | some s =>
    obtain ⟨cc, e, hc0⟩ := hc0
    exact .inr ⟨cc, e⟩
def fuD (D : Ds) (k : Int) : Ds := ⟨D.img, D.puts, if fuseR D.off k = 0 then k else D.fu, D.off⟩
theorem Ps.fuse {P : Nat → Prop} {w : World} {p : Nat} {c0 c1 : Value} {D : Ds} {nb : Nat} {s0 s1 : Option CS} (h : Ps P w p c0 c1 D nb s0 s1) (k : Int) (hk : k ≤ 9223372036854775807) :
    Calls Try.prog 51 #[.pointer (some ⟨p, 0, none⟩), .int .i64 k] w fun e w' => e = .returned (.int .i64 (fuseR D.off k)) ∧ Ps P w' p c0 c1 (fuD D k) nb s0 s1 ∧ But P w w' := by
  obtain ⟨X, Y0, Y1, hX, h0, h1, hd, hc0, hc1⟩ := h
  refine Calls.mono (Fuse_any hd k hk) ?_
  rintro e w' ⟨rfl, hd', hb⟩
  have hs := hb.size
  exact ⟨rfl, ⟨X, Y0, Y1, fun k q => ⟨(hX k q).1, by have := (hX k q).2.1; omega, (hX k q).2.2⟩, fun k q => ⟨(h0 k q).1, by have := (h0 k q).2.1; omega, (h0 k q).2.2⟩, fun k q => ⟨(h1 k q).1, by have := (h1 k q).2; omega⟩, hd', hc0.keep (fun k q hk => hb.block k hk (fun q' => (hX k q').2.2.1 q)), hc1.keep (fun k q hk => hb.block k hk (fun q' => (hX k q').2.2.2 q))⟩, hb.mono (fun k _ q => (hX k q).1)⟩
def dwD (D : Ds) (nb : Nat) (k : Int) (n : Nat) (zs : List Int) : Ds := ⟨D.img, if writeC D.off D.fu nb k n = 0 then D.puts ++ [(k.toNat, zs)] else D.puts, writeF D.off D.fu nb k n, writeO D.off D.fu nb k n⟩
theorem Ps.dwrite {P : Nat → Prop} {w : World} {p : Nat} {c0 c1 : Value} {D : Ds} {nb K : Nat} {s0 s1 : Option CS} (h : Ps P w p c0 c1 D nb s0 s1) (hK : K ≤ 16777215) (hp : D.puts.length ≤ K) (k : Int) (ad : Option Addr) (n c : Nat) (zs : List Int) (hR : RdN P w ad n zs) :
    Calls Try.prog 35 #[.pointer (some ⟨p, 0, none⟩), .int .i64 k, .slice ad n c] w fun e w' => e = .returned (.int .i64 (writeC D.off D.fu nb k n)) ∧ Ps (fun y => P y ∨ w.heap.size ≤ y) w' p c0 c1 (dwD D nb k n zs) nb s0 s1 ∧ But P w w' := by
  obtain ⟨X, Y0, Y1, hX, h0, h1, hd, hc0, hc1⟩ := h
  refine Calls.mono (Write_any hd (by omega) k ad n c zs (hR.mono (fun y _ q => (hX y q).1))) ?_
  rintro e w' ⟨rfl, hd', hb⟩
  exact ⟨rfl, Ps.of_dk (D := dwD D nb k n zs) hX h0 h1 hc0 hc1 hd' hb⟩
theorem Ps.blocks {P : Nat → Prop} {w : World} {p : Nat} {c0 c1 : Value} {D : Ds} {nb : Nat} {s0 s1 : Option CS} (h : Ps P w p c0 c1 D nb s0 s1) :
    Calls Try.prog 53 #[.pointer (some ⟨p, 0, none⟩)] w fun e w' => e = .returned (.tuple #[.int .i64 (nb : Int), .int .i64 0]) ∧ w' = w := by
  obtain ⟨X, Y0, Y1, hX, h0, h1, hd, hc0, hc1⟩ := h
  exact Blocks_any hd
theorem Ps.pending {P : Nat → Prop} {w : World} {p : Nat} {c0 c1 : Value} {D : Ds} {nb K : Nat} {s0 s1 : Option CS} (h : Ps P w p c0 c1 D nb s0 s1) (hK : K ≤ 16777215) (hp : D.puts.length ≤ K) :
    Calls Try.prog 54 #[.pointer (some ⟨p, 0, none⟩)] w fun e w' => ∃ g, e = .returned (.tuple #[.slice (some ⟨g, 0, none⟩) D.puts.length D.puts.length, .int .i64 0]) ∧ w.heap.size ≤ g ∧ Blk .i64 3 w' g (D.puts.map fun q => (q.1 : Int)) ∧ Below w.heap.size w w' := by
  obtain ⟨X, Y0, Y1, hX, h0, h1, hd, hc0, hc1⟩ := h
  exact Pending_any hd (by omega)
theorem Ps.image {P : Nat → Prop} {w : World} {p : Nat} {c0 c1 : Value} {D : Ds} {nb : Nat} {s0 s1 : Option CS} (h : Ps P w p c0 c1 D nb s0 s1) :
    Calls Try.prog 55 #[.pointer (some ⟨p, 0, none⟩)] w fun e w' => ∃ g c, e = .returned (.tuple #[.slice (some ⟨g, 0, none⟩) D.img.length c, .int .i64 0]) ∧ w.heap.size ≤ g ∧ Own w' g D.img.length c D.img ∧ Below w.heap.size w w' := by
  obtain ⟨X, Y0, Y1, hX, h0, h1, hd, hc0, hc1⟩ := h
  exact Image_any hd
theorem Ps.on {P : Nat → Prop} {w : World} {p : Nat} {c0 c1 : Value} {D : Ds} {nb : Nat} {s0 s1 : Option CS} (h : Ps P w p c0 c1 D nb s0 s1) :
    Calls Try.prog 30 #[.pointer (some ⟨p, 0, none⟩)] w fun e w' => e = .returned (.bool (!D.off)) ∧ Below w.heap.size w w' := by
  obtain ⟨X, Y0, Y1, hX, h0, h1, hd, hc0, hc1⟩ := h
  exact On_any hd
theorem Ps.crash {P : Nat → Prop} {w : World} {p : Nat} {c0 c1 : Value} {D : Ds} {nb K : Nat} {s0 s1 : Option CS} (h : Ps P w p c0 c1 D nb s0 s1) (hK : K ≤ 16777215) (hp : D.puts.length ≤ K) (a : Option Addr) (m cap : Nat) (ks : List Int) (hm : m ≤ 1073741824) (hR : RdI w.heap.size w a m ks) :
    Calls Try.prog 59 #[.pointer (some ⟨p, 0, none⟩), .slice a m cap] w fun e w' => Below w.heap.size w w' ∧
      ((placesC D.puts.length ks ≠ 0 ∧ e = .returned (.tuple #[.slice none 0 0, .int .i64 26])) ∨
       (placesC D.puts.length ks = 0 ∧ ∃ g c, e = .returned (.tuple #[.slice (some ⟨g, 0, none⟩) D.img.length c, .int .i64 0]) ∧ w.heap.size ≤ g ∧ Own w' g D.img.length c (crashZ D.img D.puts ks) ∧ Pl.isB (crashZ D.img D.puts ks))) := by
  obtain ⟨X, Y0, Y1, hX, h0, h1, hd, hc0, hc1⟩ := h
  exact Crash_any hd (by omega) a m cap ks hm hR

end Go.Proofs.Ytfadnmdmohabmaa
