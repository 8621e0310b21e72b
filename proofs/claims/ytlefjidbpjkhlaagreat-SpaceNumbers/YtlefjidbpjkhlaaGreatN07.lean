import Derived.Test.YtlefjidbpjkhlaaGreatN06
import Derived.Test.YtlefjidbpjkhlaaGreatN00
import Derived.WalkKit
import Derived.WalkSpells
import Derived.WalkLawsBesides
import Derived.Laws.BitsAllLaws
namespace Go.Proofs.YtlefjidbpjkhlaaGreat
open Go.RowKit
structure Pd where
 img : List Int
 puts : List (Nat × List Int)
 fu : Int
 off : Bool
def Pd.write (d : Pd) (x : Nat) (zs : List Int) : Int × Pd := if d.off = false ∧ d.fu ≠ 0 then (0, ⟨d.img, d.puts ++ [(x, zs)], burnF d.fu, false⟩) else (24, ⟨d.img, d.puts, d.fu, true⟩)
def Pd.flush (d : Pd) : Int × Pd := if d.off = false ∧ d.fu ≠ 0 then (0, ⟨flushZ d.img d.puts, [], burnF d.fu, false⟩) else (24, ⟨d.img, d.puts, d.fu, true⟩)
def Pd.read (d : Pd) (x : Nat) : List Int := seenZ d.img d.puts x
def Pd.Fits (d : Pd) (nb : Nat) : Prop := d.img.length = 512 * nb ∧ Pl.isB d.img ∧ Fit nb d.puts
def Cq (Z : Nat → Prop) (w : World) (c p room nb K : Nat) (d : Pd) : Prop :=
 ∃ X Y hi mi l, CD X Y w c p room hi mi l d.img d.puts d.fu d.off nb ∧ (∀ k, X k → Z k) ∧ (∀ k, Y k → Z k) ∧ (∀ k, Y k → k < w.heap.size) ∧ Good l d.img d.puts nb ∧ (0 ≤ hi ∧ hi ≤ K) ∧ (0 ≤ mi ∧ mi ≤ K)
def Gr (Z Z' : Nat → Prop) (w : World) : Prop := ∀ k, k < w.heap.size → Z' k → Z k
theorem Gr.trans {Z Z' Z'' : Nat → Prop} {w w' : World} (h : Gr Z Z' w) (k : Gr Z' Z'' w') (hs : w.heap.size ≤ w'.heap.size) : Gr Z Z'' w := fun x hx hz => h x hx (k x (Nat.lt_of_lt_of_le hx hs) hz)
theorem Gr.refl (Z : Nat → Prop) (w : World) : Gr Z Z w := fun _ _ h => h
theorem Cq.mk' {X Y Z : Nat → Prop} {w w' : World} {c p room nb K : Nat} {hi mi : Int} {l : List (Int × List Int)} {d : Pd} {X' Y' : Nat → Prop} (h : CD X' Y' w' c p room hi mi l d.img d.puts d.fu d.off nb) (hg : Grown X Y X' Y' w) (hx : ∀ k, X k → Z k) (hy : ∀ k, Y k → Z k) (hl : Good l d.img d.puts nb) (h1 : 0 ≤ hi ∧ hi ≤ K) (h2 : 0 ≤ mi ∧ mi ≤ K) :
  ∃ Z', Cq Z' w' c p room nb K d ∧ Gr Z Z' w := by
 refine ⟨fun k => X' k ∨ Y' k, ⟨X', fun k => Y' k ∧ k < w'.heap.size, hi, mi, l, ⟨h.ca.cut, h.dk, fun k q => h.dj k q.1⟩, fun k q => .inl q, fun k q => .inr q.1, fun k q => q.2, hl, h1, h2⟩, fun k hk q => ?_⟩
 rcases q with q | q
 ·exact hx k ((hg k hk).1 q)
 ·exact hy k ((hg k hk).2 q)
theorem Cq.fits {Z : Nat → Prop} {w : World} {c p room nb K : Nat} {d : Pd} (h : Cq Z w c p room nb K d) : d.Fits nb ∧ 1 ≤ nb ∧ nb ≤ 524288 := by
 obtain ⟨X, Y, hi, mi, l, h1, _⟩ := h
 have hf := h1.dk.fit
 obtain ⟨ds, gL, cL, pv, mp, e, h2⟩ := h1.dk
 exact ⟨⟨h2.own.len, h2.isb, hf⟩, h2.lo, h2.hi⟩
theorem Cq.mono {Z Z' : Nat → Prop} {w : World} {c p room nb K K' : Nat} {d : Pd} (h : Cq Z w c p room nb K d) (hz : ∀ k, Z k → Z' k) (hK : K ≤ K') : Cq Z' w c p room nb K' d := by
 obtain ⟨X, Y, hi, mi, l, h1, h2, h3, h4, h5, h6, h7⟩ := h
 exact ⟨X, Y, hi, mi, l, h1, fun k q => hz k (h2 k q), fun k q => hz k (h3 k q), h4, h5, ⟨h6.1, by omega⟩, ⟨h7.1, by omega⟩⟩
theorem Cq.keep {Z : Nat → Prop} {w w' : World} {c p room nb K : Nat} {d : Pd} (h : Cq Z w c p room nb K d) (hk : ∀ x, Z x → x < w.heap.size → w'.heap[x]? = w.heap[x]?) (hs : w.heap.size ≤ w'.heap.size) : Cq Z w' c p room nb K d := by
 obtain ⟨X, Y, hi, mi, l, h1, h2, h3, h4, h5, h6, h7⟩ := h
 exact ⟨X, Y, hi, mi, l, ⟨h1.ca.keep (fun k q hq => hk k (h3 k q) hq), h1.dk.keep (fun k q hq => hk k (h2 k q) hq), h1.dj⟩, h2, h3, fun k q => Nat.lt_of_lt_of_le (h4 k q) hs, h5, h6, h7⟩
theorem Cq.but {Z Y : Nat → Prop} {w w' : World} {c p room nb K : Nat} {d : Pd} (h : Cq Z w c p room nb K d) (hb : But Y w w') (hx : ∀ x, x < w.heap.size → Z x → ¬ Y x) : Cq Z w' c p room nb K d := h.keep (fun x h1 h2 => hb.block x h2 (hx x h2 h1)) hb.size
theorem Cq.below {Z : Nat → Prop} {w w' : World} {c p room nb K : Nat} {d : Pd} (h : Cq Z w c p room nb K d) (hb : Below w.heap.size w w') : Cq Z w' c p room nb K d := h.keep (fun x _ h2 => hb.block x h2) hb.size
theorem Cq.c0 {Z : Nat → Prop} {w : World} {c p room nb K : Nat} {d : Pd} (h : Cq Z w c p room nb K d) : w.cell? ⟨c, 0, none⟩ = some (.pointer (some ⟨p, 0, none⟩)) ∧ c < w.heap.size ∧ Z c := by
 obtain ⟨X, Y, hi, mi, l, h1, h2, h3, _⟩ := h
 obtain ⟨v2, v3, hg, hYc, _⟩ := h1.ca.cg
 exact ⟨hg.cell 0, hg.lt, h3 c hYc⟩
theorem Cq.dk {Z : Nat → Prop} {w : World} {c p room nb K : Nat} {d : Pd} (h : Cq Z w c p room nb K d) : Dk Z w p d.img d.puts d.fu d.off nb := by
 obtain ⟨X, Y, hi, mi, l, h1, h2, h3, _⟩ := h
 exact h1.dk.mono h2
theorem Cq.write {Z : Nat → Prop} {w : World} {c p room nb K : Nat} {d : Pd} (h : Cq Z w c p room nb K d) (hl : d.puts.length ≤ 1073741823) (x : Nat) (hx : x < nb) (ad : Option Addr) (cp : Nat) (zs : List Int) (hR : RdN Z w ad 512 zs) :
  Calls Tryz.prog 178 #[.pointer (some ⟨c, 0, none⟩), .int .i64 (x : Int), .slice ad 512 cp] w fun e w' => e = .returned (.int .i64 (d.write x zs).1) ∧ (∃ Z', Cq Z' w' c p room nb K (d.write x zs).2 ∧ Gr Z Z' w) ∧ But Z w w' := by
 obtain ⟨X, Y, hi, mi, l, h1, h2, h3, h4, h5, h6, h7⟩ := h
 have hR' : RdN X w ad 512 zs := hR.mono (fun k _ q => h2 k q)
 by_cases hd : d.off = false ∧ d.fu ≠ 0
 ·have hz : writeC d.off d.fu nb (x : Int) 512 = 0 := by
   unfold writeC burnC
   rw [hd.1, if_neg (by simp), if_neg (by omega), if_neg (by simp), if_neg hd.2]
  refine Calls.mono (CWrite_ok h1 hl (x : Int) ad 512 cp zs hR' hz) ?_
  rintro e w' ⟨rfl, ⟨X', Y', q1, q2⟩, b⟩
  have e1 : d.write x zs = (0, ⟨d.img, d.puts ++ [(x, zs)], burnF d.fu, false⟩) := by unfold Pd.write; rw [if_pos hd]
  have e2 : burnO d.fu d.off = false := by unfold burnO; rw [if_neg hd.2, hd.1]
  rw [e2] at q1
  rw [e1]
  refine ⟨rfl, Cq.mk' (d := ⟨d.img, d.puts ++ [(x, zs)], burnF d.fu, false⟩) q1 q2 h2 h3 (h5.write room (by omega) (by omega) zs) h6 h7, b.mono (fun k _ q => q.elim (h2 k) (h3 k))⟩
 ·have e1 : d.write x zs = (24, ⟨d.img, d.puts, d.fu, true⟩) := by unfold Pd.write; rw [if_neg hd]
  have hz : writeC d.off d.fu nb (x : Int) 512 = 24 ∧ writeF d.off d.fu nb (x : Int) 512 = d.fu ∧ writeO d.off d.fu nb (x : Int) 512 = true := by
   unfold writeC writeF writeO burnC burnF burnO
   cases ho : d.off
   ·have hf : d.fu = 0 := Classical.byContradiction fun q => hd ⟨ho, q⟩
    rw [hf]
    refine ⟨?_, ?_, ?_⟩
    ·rw [if_neg (by simp), if_neg (by omega), if_neg (by simp)]; rfl
    ·rw [if_pos ⟨rfl, by omega, rfl⟩]; rfl
    ·rw [if_pos ⟨rfl, by omega, rfl⟩]; rfl
   ·exact ⟨rfl, by simp, by simp⟩
  have H := CWrite_bad h1 hl (x : Int) ad 512 cp zs hR' (by rw [hz.1]; decide)
  rw [hz.1, hz.2.1, hz.2.2] at H
  refine Calls.mono H ?_
  rintro e w' ⟨rfl, ⟨X', Y', q1, q2⟩, b⟩
  rw [e1]
  exact ⟨rfl, Cq.mk' (d := ⟨d.img, d.puts, d.fu, true⟩) q1 q2 h2 h3 h5 h6 h7, b.mono (fun k _ q => q.elim (h2 k) (h3 k))⟩
theorem Cq.flush {Z : Nat → Prop} {w : World} {c p room nb K : Nat} {d : Pd} (h : Cq Z w c p room nb K d) (hl : d.puts.length ≤ 1073741824) :
  Calls Tryz.prog 121 #[.pointer (some ⟨c, 0, none⟩)] w fun e w' => e = .returned (.int .i64 d.flush.1) ∧ (∃ Z', Cq Z' w' c p room nb K d.flush.2 ∧ Gr Z Z' w) ∧ But Z w w' := by
 have hft := h.fits
 obtain ⟨X, Y, hi, mi, l, h1, h2, h3, h4, h5, h6, h7⟩ := h
 obtain ⟨v2, v3, hg, hYc, _⟩ := h1.ca.cg
 have HF := Flush_any h1.dk hl
 have HR : Calls Tryz.prog 116 #[.pointer (some ⟨p, 0, none⟩)] w fun e w' => ∃ x, e = .returned (.int .i64 x) ∧ (x = d.flush.1 ∧ (∃ Z', Cq Z' w' c p room nb K d.flush.2 ∧ Gr Z Z' w) ∧ But Z w w') := by
  refine Calls.mono HF ?_
  rintro e w' ⟨rfl, d1, b1⟩
  have hcd : ∀ d' : Pd, Dk (fun x => X x ∨ w.heap.size ≤ x) w' p d'.img d'.puts d'.fu d'.off nb → Good l d'.img d'.puts nb → ∃ Z', Cq Z' w' c p room nb K d' ∧ Gr Z Z' w := fun d' q1 q2 => by
   refine Cq.mk' (X := X) (Y := Y) (X' := fun x => X x ∨ w.heap.size ≤ x) (Y' := fun k => Y k ∧ k < w.heap.size) (hi := hi) (mi := mi) (l := l) ⟨h1.ca.cut.but b1 (fun k q => h1.dj k q.1), q1, fun k q q' => ?_⟩ (fun k hk => ⟨fun q => ?_, fun q => q.1⟩) h2 h3 q2 h6 h7
   ·rcases q' with q' | q'
    ·exact h1.dj k q.1 q'
    ·omega
   ·rcases q with q | q
    ·exact q
    ·omega
  refine ⟨flushC d.off d.fu, rfl, ?_, ?_, b1.mono (fun k _ q => h2 k q)⟩
  ·unfold flushC Pd.flush burnC
   cases ho : d.off
   ·by_cases hf : d.fu = 0
    ·simp [hf]
    ·simp [hf]
   ·simp
  ·by_cases hd : d.off = false ∧ d.fu ≠ 0
   ·have e1 : d.flush = (0, ⟨flushZ d.img d.puts, [], burnF d.fu, false⟩) := by unfold Pd.flush; rw [if_pos hd]
    have e2 : flushC d.off d.fu = 0 := by unfold flushC burnC; rw [hd.1]; simp [hd.2]
    have e3 : afterF d.off d.fu = burnF d.fu := by unfold afterF; rw [hd.1]; rfl
    have e4 : afterO d.off d.fu = false := by unfold afterO burnO; rw [hd.1]; simp [hd.2]
    rw [e2, if_pos rfl, if_pos rfl, e3, e4] at d1
    rw [e1]
    exact hcd ⟨flushZ d.img d.puts, [], burnF d.fu, false⟩ d1 (h5.flush hft.1.1 hft.1.2.2)
   ·have e1 : d.flush = (24, ⟨d.img, d.puts, d.fu, true⟩) := by unfold Pd.flush; rw [if_neg hd]
    have e2 : flushC d.off d.fu = 24 ∧ afterF d.off d.fu = d.fu ∧ afterO d.off d.fu = true := by
     unfold flushC afterF afterO burnC burnF burnO
     cases ho : d.off
     ·have hf : d.fu = 0 := Classical.byContradiction fun q => hd ⟨ho, q⟩
      rw [hf]
      exact ⟨rfl, rfl, rfl⟩
     ·exact ⟨rfl, by simp, rfl⟩
    rw [e2.1, e2.2.1, e2.2.2, if_neg (by decide), if_neg (by decide)] at d1
    rw [e1]
    exact hcd ⟨d.img, d.puts, d.fu, true⟩ d1 h5
 refine Calls.mono (Flush_disk hg HR) ?_
 rintro e w' ⟨x, rfl, rfl, r1, r2⟩
 exact ⟨rfl, r1, r2⟩
theorem Cq.cread {Z : Nat → Prop} {w : World} {c p room nb K : Nat} {d : Pd} (h : Cq Z w c p room nb K d) (hl : d.puts.length ≤ 1073741824) (hK : K < 4611686018427387904) (hon : d.off = false) (x : Nat) (hx : x < nb) :
  Calls Tryz.prog 260 #[.pointer (some ⟨c, 0, none⟩), .int .i64 (x : Int)] w fun e w' => ∃ g cp, e = .returned (.tuple #[.slice (some ⟨g, 0, none⟩) 512 cp, .int .i64 0]) ∧ w.heap.size ≤ g ∧ Own w' g 512 cp (d.read x) ∧ (∃ Z', Cq Z' w' c p room nb (K + 1) d ∧ Gr Z Z' w ∧ ¬ Z' g) ∧ But Z w w' := by
 have hrd := h.dk.seen hx
 obtain ⟨X, Y, hi, mi, l, h1, h2, h3, h4, h5, h6, h7⟩ := h
 have hnb := h1.dk.facts.2.2.2
 have hwf := wf_small (x := (x : Int)) (by omega) (by omega)
 have hrs : readS l d.img d.puts d.off nb (x : Int) = (0, d.read x) := by
  unfold readS Pd.read
  rw [hon, if_neg (by simp)]
  cases hh : heldZ l (x : Int) with
  | none =>
   unfold readR
   rw [if_neg (by simp), if_neg (by omega)]
   rfl
  | some z =>
   unfold heldZ at hh
   obtain ⟨q, hq, rfl⟩ := Option.map_eq_some_iff.1 hh
   have hm := List.mem_of_find?_eq_some hq
   have hx2 := List.find?_some hq
   simp at hx2
   obtain ⟨_, _, g3⟩ := h5 q hm
   rw [g3, hx2]
   rfl
 have hl2 : (d.read x).length = 512 := hrd.1
 refine Calls.mono (CRead_full2 h1 h4 hl hwf (by omega) (by omega)) ?_
 rintro e w' ⟨al, cp, rfl, q1, ⟨X', Y', q2, q3, q4⟩, b, _⟩
 rw [hrs] at q1 q2 ⊢
 simp only [hl2] at q1 q2 ⊢
 rcases q1 with ⟨_, _, q1⟩ | ⟨g, rfl, q5, q6⟩
 ·rw [q1] at hl2; cases hl2
 ·have hg : Good (readL room l (0, d.read x) (x : Int)) d.img d.puts nb := by
   have := h5.read room d.off (x : Int)
   have hrr : readR d.img d.puts d.off nb (x : Int) = (0, d.read x) := by
    unfold readR Pd.read
    rw [hon, if_neg (by simp), if_neg (by omega)]
    rfl
   rwa [hrr] at this
  have k1 : 0 ≤ hitN l 0 (x : Int) ∧ hitN l 0 (x : Int) ≤ 1 := by unfold hitN; split <;> omega
  have k2 : 0 ≤ missN l 0 (x : Int) ∧ missN l 0 (x : Int) ≤ 1 := by unfold missN; split <;> omega
  refine ⟨g, cp, rfl, q5, q6, ⟨fun k => X' k ∨ Y' k, ⟨X', fun k => Y' k ∧ k < w'.heap.size, _, _, _, ⟨q2.ca.cut, q2.dk, fun k q => q2.dj k q.1⟩, fun k q => .inl q, fun k q => .inr q.1, fun k q => q.2, hg, by omega, by omega⟩, fun k hk q => ?_, ?_⟩, b.mono (fun k _ q => q.elim (h2 k) (h3 k))⟩
  ·rcases q with q | q
   ·exact h2 k ((q3 k hk).1 q)
   ·exact h3 k ((q3 k hk).2 q)
  ·rintro (q | q)
   ·exact (q4 g rfl).1 q
   ·exact (q4 g rfl).2 q
theorem Cq.dread {Z : Nat → Prop} {w : World} {c p room nb K : Nat} {d : Pd} (h : Cq Z w c p room nb K d) (hl : d.puts.length ≤ 1073741824) (hon : d.off = false) (x : Nat) (hx : x < nb) :
  Calls Tryz.prog 168 #[.pointer (some ⟨p, 0, none⟩), .int .i64 (x : Int)] w fun e w' => ∃ g cp, e = .returned (.tuple #[.slice (some ⟨g, 0, none⟩) 512 cp, .int .i64 0]) ∧ w.heap.size ≤ g ∧ Own w' g 512 cp (d.read x) ∧ Below w.heap.size w w' := by
 have hrr : readR d.img d.puts d.off nb (x : Int) = (0, d.read x) := by
  unfold readR Pd.read
  rw [hon, if_neg (by simp), if_neg (by omega)]
  rfl
 have hlen := (h.dk.seen hx).1
 refine Calls.mono (Read_any h.dk (x : Int) hl) ?_
 rintro e w' ⟨al, cp, rfl, h1, b⟩
 rw [hrr] at h1 ⊢
 have hl2 : (d.read x).length = 512 := hlen
 simp only [hl2] at h1 ⊢
 rcases h1 with ⟨_, _, h1⟩ | ⟨g, rfl, h2, h3⟩
 ·rw [h1] at hl2; cases hl2
 ·exact ⟨g, cp, rfl, h2, h3, b⟩
theorem Pd.read_len {Z : Nat → Prop} {w : World} {c p room nb K : Nat} {d : Pd} (h : Cq Z w c p room nb K d) (x : Nat) (hx : x < nb) : (d.read x).length = 512 ∧ Pl.isB (d.read x) := h.dk.seen hx
open Go.RowKit
structure Cmd where
 it : Option (Nat × List Int)
abbrev Cmd.wr (x : Nat) (zs : List Int) : Cmd := ⟨some (x, zs)⟩
abbrev Cmd.fl : Cmd := ⟨none⟩
theorem Cmd.both (c : Cmd) : (∃ x zs, c = .wr x zs) ∨ c = .fl := by
 obtain ⟨_ | ⟨x, zs⟩⟩ := c
 ·exact .inr rfl
 ·exact .inl ⟨x, zs, rfl⟩
def Pd.run1 (d : Pd) : Cmd → Int × Pd
 | ⟨some (x, zs)⟩ => d.write x zs
 | ⟨none⟩ => d.flush
def Pd.runs (d : Pd) : List Cmd → Int × Pd
 | [] => (0, d)
 | c :: cs => if (d.run1 c).1 = 0 then (d.run1 c).2.runs cs else d.run1 c
theorem Pd.runs_append (d : Pd) (xs bs : List Cmd) : d.runs (xs ++ bs) = if (d.runs xs).1 = 0 then (d.runs xs).2.runs bs else d.runs xs := by
 induction xs generalizing d with
 | nil => rfl
 | cons a xs ih =>
  simp only [List.cons_append, Pd.runs]
  by_cases h : (d.run1 a).1 = 0
  ·simp only [if_pos h]; exact ih _
  ·simp only [if_neg h]
theorem Pd.runs_one (d : Pd) (c : Cmd) : d.runs [c] = d.run1 c := by
 simp only [Pd.runs]
 split
 ·rename_i h; rw [← h]
 ·rfl
theorem Pd.runs_snoc {d : Pd} {xs : List Cmd} (h : (d.runs xs).1 = 0) (c : Cmd) : d.runs (xs ++ [c]) = (d.runs xs).2.run1 c := by
 rw [Pd.runs_append, if_pos h, Pd.runs_one]
theorem Pd.runs_stop {d : Pd} {xs : List Cmd} (h : (d.runs xs).1 ≠ 0) (bs : List Cmd) : d.runs (xs ++ bs) = d.runs xs := by
 rw [Pd.runs_append, if_neg h]
def Cmd.Ok (nb : Nat) : Cmd → Prop
 | ⟨some (x, zs)⟩ => x < nb ∧ zs.length = 512 ∧ Pl.isB zs
 | ⟨none⟩ => True
theorem Pd.run1_puts (d : Pd) (c : Cmd) : (d.run1 c).2.puts.length ≤ d.puts.length + 1 := by
 rcases c.both with ⟨x, zs, rfl⟩ | rfl
 ·unfold Pd.run1 Pd.write; simp only; split <;> simp
 ·unfold Pd.run1 Pd.flush; simp only; split <;> simp
theorem Pd.runs_puts (d : Pd) (cs : List Cmd) : (d.runs cs).2.puts.length ≤ d.puts.length + cs.length := by
 induction cs generalizing d with
 | nil => simp [Pd.runs]
 | cons c cs ih =>
  have h1 := d.run1_puts c
  unfold Pd.runs
  split
  ·have := ih (d.run1 c).2
   simp only [List.length_cons]
   omega
  ·simp only [List.length_cons]; omega
theorem Pd.run1_code (d : Pd) (c : Cmd) : ((d.run1 c).1 = 0 ∧ d.off = false ∧ (d.run1 c).2.off = false) ∨ ((d.run1 c).1 = 24 ∧ (d.run1 c).2 = { d with off := true }) := by
 rcases c.both with ⟨x, zs, rfl⟩ | rfl
 ·skip
  unfold Pd.run1 Pd.write
  simp only
  split
  ·rename_i h; exact .inl ⟨rfl, h.1, rfl⟩
  ·exact .inr ⟨rfl, rfl⟩
 ·skip
  unfold Pd.run1 Pd.flush
  simp only
  split
  ·rename_i h; exact .inl ⟨rfl, h.1, rfl⟩
  ·exact .inr ⟨rfl, rfl⟩
theorem Pd.runs_code (d : Pd) (cs : List Cmd) : ((d.runs cs).1 = 0 ∧ (d.off = false → (d.runs cs).2.off = false)) ∨ ((d.runs cs).1 = 24 ∧ (d.runs cs).2.off = true) := by
 induction cs generalizing d with
 | nil => exact .inl ⟨rfl, fun h => h⟩
 | cons c cs ih =>
  unfold Pd.runs
  rcases d.run1_code c with ⟨h1, h2, h3⟩ | ⟨h1, h2⟩
  ·rw [if_pos h1]
   rcases ih (d.run1 c).2 with ⟨q1, q2⟩ | q
   ·exact .inl ⟨q1, fun _ => q2 h3⟩
   ·exact .inr q
  ·rw [if_neg (by omega)]
   exact .inr ⟨h1, by rw [h2]⟩
theorem Pd.run1_free {d : Pd} (h : d.off = false) (hf : d.fu = -1) (c : Cmd) : (d.run1 c).1 = 0 ∧ (d.run1 c).2.off = false ∧ (d.run1 c).2.fu = -1 := by
 have hc : d.off = false ∧ d.fu ≠ 0 := ⟨h, by omega⟩
 rcases c.both with ⟨x, zs, rfl⟩ | rfl
 ·skip
  have e : d.run1 (.wr x zs) = (0, ⟨d.img, d.puts ++ [(x, zs)], burnF d.fu, false⟩) := if_pos hc
  rw [e]
  exact ⟨rfl, rfl, by show burnF d.fu = -1; unfold burnF; rw [if_pos hf]⟩
 ·skip
  have e : d.run1 .fl = (0, ⟨flushZ d.img d.puts, [], burnF d.fu, false⟩) := if_pos hc
  rw [e]
  exact ⟨rfl, rfl, by show burnF d.fu = -1; unfold burnF; rw [if_pos hf]⟩
theorem Pd.runs_free {d : Pd} (h : d.off = false) (hf : d.fu = -1) (cs : List Cmd) : (d.runs cs).1 = 0 ∧ (d.runs cs).2.off = false ∧ (d.runs cs).2.fu = -1 := by
 induction cs generalizing d with
 | nil => exact ⟨rfl, h, hf⟩
 | cons c cs ih =>
  obtain ⟨h1, h2, h3⟩ := d.run1_free h hf c
  unfold Pd.runs
  rw [if_pos h1]
  exact ih h2 h3
open Go.RowKit
theorem or_u64 {A z : Int} (h0 : 0 ≤ A) (h1 : A < 72057594037927936) (z0 : 0 ≤ z) (z1 : z < 256) :
  bits BinOp.or IntKind.u64 (IntKind.u64.wrap (A * 256)) (IntKind.u64.wrap z) = z + 256 * A := by
 obtain ⟨a, rfl⟩ := Int.eq_ofNat_of_zero_le h0
 obtain ⟨y, rfl⟩ := Int.eq_ofNat_of_zero_le z0
 rw [IntKind.wrap_u64, IntKind.wrap_u64, show ((a : Int) * 256) % 18446744073709551616 = ((a * 256 : Nat) : Int) by omega, show ((y : Int)) % 18446744073709551616 = ((y : Nat) : Int) by omega,
  u64_or_nat _ _ (by omega) (by omega), Pl.lor_add a y (by omega)]
 omega
set_option maxHeartbeats 400000 in
theorem num_any (x : Int) (w : World) :
  Calls Tryz.prog 11 #[.int .i64 x] w fun e w' => e = .returned (.int .i64 x) ∧ w' = w := by
 go_enter Tryz.func11, Tryz.ntmps11
 go_wp2
 go_ret
 exact ⟨rfl, rfl⟩
def wfB (x : Int) : Bool := decide (1 ≤ x) && decide (x ≤ 8)
set_option maxHeartbeats 400000 in
theorem widthFits_any (x : Int) (w : World) :
  Calls Tryz.prog 182 #[.int .i64 x] w fun e w' => e = .returned (.bool (wfB x)) ∧ w' = w := by
 go_enter Tryz.func182, Tryz.ntmps182
 go_wp2
 all_goals go_ret
 ·exact ⟨by simp [wfB, *], rfl⟩
 ·exact ⟨by simp [wfB]; omega, rfl⟩
theorem num_lt7 {zs : List Int} (hb : Pl.isB zs) (j : Nat) (hn : zs.length ≤ 8) : Pl.num (zs.drop (j + 1)) < 72057594037927936 := by
 have h := Pl.num_lt (Pl.isB_drop hb (j + 1))
 have hl : (zs.drop (j + 1)).length ≤ 7 := by simp; omega
 have h2 : (256 : Int) ^ (zs.drop (j + 1)).length ≤ 72057594037927936 := by
  generalize (zs.drop (j + 1)).length = n at hl
  rcases (show n = 0 ∨ n = 1 ∨ n = 2 ∨ n = 3 ∨ n = 4 ∨ n = 5 ∨ n = 6 ∨ n = 7 from by omega) with rfl | rfl | rfl | rfl | rfl | rfl | rfl | rfl <;> decide
 omega
theorem getNumber_step {zs : List Int} (hb : Pl.isB zs) {j : Nat} (hj : j < zs.length) (hn : zs.length ≤ 8) :
  bits BinOp.or IntKind.u64 (IntKind.u64.wrap (Pl.num (List.drop (j + 1) zs) * 256)) (IntKind.u64.wrap (zs[j]?.getD 0)) = Pl.num (zs.drop j) := by
 rw [Pl.num_step hj]
 have hz := Pl.isB_getD hb j
 exact or_u64 (Pl.num_nonneg (Pl.isB_drop hb _)) (num_lt7 hb j hn) hz.1 hz.2
set_option maxHeartbeats 400000 in
theorem getNumber_any (b off n cap : Nat) (zs : List Int) (w : World) (hn : n ≤ 8) (hz : zs.length = n) (hb : Pl.isB zs)
  (hc : ∀ t, t < n → w.cell? ⟨b, off + t, none⟩ = some (.int .u8 (zs.getD t 0))) :
  Calls Tryz.prog 183 #[.slice (some ⟨b, off, none⟩) n cap] w fun e w' => e = .returned (.int .u64 (Pl.num zs)) ∧ w' = w := by
 go_enter Tryz.func183, Tryz.ntmps183
 go_wp2
 go_loop [3, 4] (fun s i => ∃ k : Nat, k ≤ n ∧ i = .int .i64 ((k : Int) - 1) ∧ s = .int .u64 (Pl.num (zs.drop k))) (fun _ i => (intOf i + 1).toNat)
 case atStart => exact ⟨n, Nat.le_refl _, rfl, by rw [List.drop_of_length_le (by omega)]; rfl⟩
 case round =>
  obtain ⟨k, hk, rfl, rfl⟩ := hrel
  by_cases h0 : k = 0
  ·subst h0
   go_wp2
   go_ret
   exact ⟨by simp, rfl⟩
  ·obtain ⟨j, rfl⟩ : ∃ j, k = j + 1 := ⟨k - 1, by omega⟩
   have hcj := hc j (by omega)
   go_wp2
   go_round
   case rel => exact ⟨j, by omega, rfl, by rw [getNumber_step hb (by omega) (by omega)]⟩
   case measure => simp [intOf]
def zeroB (zs : List Int) : Bool := zs.all (· == 0)
theorem zeroB_step {zs : List Int} {k : Nat} (h : zeroB (zs.take k) = true) (he : zs[k]?.getD 0 = 0) : zeroB (zs.take (k + 1)) = true := by
 unfold zeroB at *
 rw [List.take_add_one, List.all_append, h]
 cases hk : zs[k]? <;> simp_all
theorem zeroB_not {zs : List Int} {k : Nat} (he : zs[k]?.getD 0 ≠ 0) : zeroB zs = false := by
 unfold zeroB
 rw [List.all_eq_false]
 cases hk : zs[k]? with
 | none => simp [hk] at he
 | some z => exact ⟨z, List.mem_of_getElem? hk, by simpa [hk] using he⟩
set_option maxHeartbeats 400000 in
theorem allZero_any (B : Nat) (a : Option Addr) (n cap : Nat) (zs : List Int) (w : World) (hm : n ≤ 1048576) (h : Rd B w a n zs) :
  Calls Tryz.prog 223 #[.slice a n cap] w fun e w' => e = .returned (.bool (zeroB zs)) ∧ w' = w := by
 obtain ⟨hz, hb, h3⟩ := h
 rcases h3 with rfl | ⟨b, off, rfl, hlt, hc⟩
 ·have : zs = [] := List.length_eq_zero_iff.1 hz
  subst this
  go_enter Tryz.func223, Tryz.ntmps223
  go_wp2
  refine wp_loop_rounds 1 ?_
  rw [rounds_succ]
  go_wp2
  go_ret
  exact ⟨rfl, rfl⟩
 ·go_enter Tryz.func223, Tryz.ntmps223
  go_wp2
  go_loop [7] (fun i => ∃ k : Nat, k ≤ n ∧ i = .int .i64 (k : Int) ∧ zeroB (zs.take k) = true) (fun i => n - (intOf i).toNat)
  case atStart => exact ⟨0, Nat.zero_le _, rfl, rfl⟩
  case round =>
   obtain ⟨k, hk, rfl, hzt⟩ := hrel
   by_cases h0 : k < n
   ·obtain ⟨z, hzv⟩ : ∃ z, z = zs.getD k 0 := ⟨_, rfl⟩
    have hcj := hc k h0
    rw [← hzv] at hcj
    rw [List.getD_eq_getElem?_getD] at hzv
    have H : Hid (z = zs[k]?.getD 0) := hzv
    clear hzv hc hz hb
    by_cases he : z = 0
    ·subst he
     go_wp2
     go_round
     case rel => exact ⟨k + 1, by omega, by go_num, zeroB_step hzt H.out.symm⟩
     case measure => simp [intOf]; omega
    ·have hne : (z != 0) = true := by simpa using he
     go_wp2
     go_ret
     exact ⟨by rw [zeroB_not (k := k) (by rw [← H.out]; exact he)]; rfl, rfl⟩
   ·go_wp2
    go_ret
    rw [List.take_of_length_le (by omega)] at hzt
    exact ⟨by rw [hzt]; rfl, rfl⟩
set_option maxHeartbeats 400000 in
theorem putNumber_any (g off n cap : Nat) (v : Int) (zs : List Int) (w : World) (hn : n ≤ 8) (h0 : 0 ≤ v) (h1 : v < 18446744073709551616) (hB : Blk .u8 5 w g zs) (hl : off + n ≤ zs.length) :
  Calls Tryz.prog 220 #[.slice (some ⟨g, off, none⟩) n cap, .int .u64 v] w fun e w' => e = .returned (.tuple #[]) ∧ w'.heap.size = w.heap.size ∧ w.grownBy w' (some g) ∧ Blk .u8 5 w' g (splice zs off (Pl.dig v n)) := by
 go_enter Tryz.func220, Tryz.ntmps220
 go_wp2
 go_loopw [1, 7] (fun s i wr => ∃ (k : Nat) (u : Int) (ys : List Int), k ≤ n ∧ 0 ≤ u ∧ u < 18446744073709551616 ∧ i = .int .i64 (k : Int) ∧ s = .int .u64 u ∧ Blk .u8 5 wr g ys ∧ ys.length = zs.length ∧
   splice ys (off + k) (Pl.dig u (n - k)) = splice zs off (Pl.dig v n) ∧ wr.heap.size = w.heap.size ∧ w.grownBy wr (some g)) (fun _ i _ => n - (intOf i).toNat)
 case atStart => exact ⟨0, v, zs, Nat.zero_le _, h0, h1, rfl, rfl, hB, rfl, by simp, rfl, World.grownBy.refl _ _⟩
 case round =>
  obtain ⟨k, u, ys, hk, u0, u1, rfl, rfl, hBk, hyl, hsp, hsz, hgr⟩ := hrel
  by_cases hlt : k < n
  ·have hc := hBk.cell (off + k) (by omega)
   have hf := hBk.frozen (off + k)
   go_wp2
   go_roundw
   case rel =>
    refine ⟨k + 1, u / 256, ys.set (off + k) (u % 256), by omega, by omega, by omega, by go_num, rfl, hBk.set _ _, by simpa using hyl, ?_, by simpa [World.setCell] using hsz, grown_set hgr rfl _⟩
    rw [← hsp, show n - k = (n - (k + 1)) + 1 by omega, Pl.dig, splice_cons _ _ _ _ (by omega)]
    rfl
   case measure => simp [intOf]; omega
  ·go_wp2
   go_end0
   rw [show n - k = 0 by omega, Pl.dig, splice_nil] at hsp
   exact ⟨rfl, hsz, hgr, hsp ▸ hBk⟩
theorem steps_tab : (List.range 16).map (fun x => ((Pl.stepN 4 x : Nat) : Int)) = [0, 274646895, 549293790, 820201905, 1098587580, 1361435347, 1640403810, 1905808397, 2197175160, 2460548119, 2722870694, 2987750089, 3280807620, 3553878443, 3811616794, 4084100981] := by decide
def tab : List Int := (List.range 16).map (fun x => ((Pl.stepN 4 x : Nat) : Int))
set_option maxHeartbeats 400000 in
theorem sumSteps_any (w : World) :
  Calls Tryz.prog 242 #[] w fun e w' => e = .returned (.agg (tab.map (Value.int .u32)).toArray) ∧ w' = w.alloc (.cells (tab.map (Value.int .u32)).toArray 295) := by
 rw [show tab = _ from steps_tab]
 go_enter Tryz.func242, Tryz.ntmps242
 go_wp2
 exact bodyPost_ret (v := .agg (List.map (Value.int .u32) [0, 274646895, 549293790, 820201905, 1098587580, 1361435347, 1640403810, 1905808397, 2197175160, 2460548119, 2722870694, 2987750089, 3280807620, 3553878443, 3811616794, 4084100981]).toArray) (by simp [results, Tryz.results242, go_sem]) rfl ⟨rfl, rfl⟩
open Go.RowKit
def cat (Z : Nat → List Int) : Nat → List Int
 | 0 => []
 | k + 1 => cat Z k ++ Z k
def reg (L : List Int) : Nat := Pl.sums 4294967295 (L.map Int.toNat)
def crc (L : List Int) : Int := ((4294967295 ^^^ reg L : Nat) : Int)
theorem reg_lt {L : List Int} (h : Pl.isB L) : reg L < 4294967296 := by
 have : ∀ (l : List Int) (s : Nat), Pl.isB l → s < 4294967296 → Pl.sums s (l.map Int.toNat) < 4294967296 := by
  intro l
  induction l with
  | nil => intro s _ hs; exact hs
  | cons z r ih => intro s hb hs; rw [Pl.isB_cons] at hb; simp only [List.map_cons, Pl.sums, List.foldl_cons]; exact ih _ hb.2 (Pl.sumB_lt hs (by omega))
 exact this L _ h (by decide)
theorem reg_snoc (L : List Int) (z : Int) : reg (L ++ [z]) = Pl.sumB (reg L) z.toNat := by simp [reg, Pl.sums]
theorem isB_cat {Z : Nat → List Int} {k : Nat} (h : ∀ t, t < k → Pl.isB (Z t)) : Pl.isB (cat Z k) := by
 induction k with
 | zero => exact Pl.isB_nil
 | succ k ih => rw [cat, Pl.isB_append]; exact ⟨ih fun t ht => h t (by omega), h k (by omega)⟩
theorem xor_u32 {S z : Nat} (hS : S < 4294967296) (hz : z < 4294967296) : bits BinOp.xor IntKind.u32 (S : Int) (z : Int) = ((S ^^^ z : Nat) : Int) := u32_xor_nat S z hS hz
theorem not_u32 {z : Nat} (hz : z < 4294967296) : bits BinOp.xor IntKind.u32 IntKind.u32.max (z : Int) = ((4294967295 ^^^ z : Nat) : Int) := u32_xor_nat 4294967295 z (by decide) hz
theorem and15 {T : Nat} (hT : T < 4294967296) : bits BinOp.and IntKind.u32 (T : Int) 15 = ((T % 16 : Nat) : Int) := by
 have h := u32_and_nat T 15 hT (by decide)
 rw [show T &&& 15 = T % 16 from Nat.and_two_pow_sub_one_eq_mod T 4] at h
 exact h
theorem half {T : Nat} (hT : T < 4294967296) : bits BinOp.xor IntKind.u32 ((T : Int) / 16) ((Pl.stepN 4 (T % 16) : Nat) : Int) = ((Pl.stepN 4 T : Nat) : Int) := by
 have h := u32_xor_nat (T / 16) (Pl.stepN 4 (T % 16)) (by omega) (Pl.stepN_lt 4 (by omega))
 rw [Pl.step4 T, ← h]
 rfl
theorem tab_getD {x : Nat} (h : x < 16) : tab.getD x 0 = ((Pl.stepN 4 x : Nat) : Int) := by
 unfold tab
 simp [h]
theorem tab_cell (w : World) {x : Nat} (h : x < 16) : ((w.alloc (.cells (tab.map (Value.int .u32)).toArray 295)).alloc (.cells (tab.map (Value.int .u32)).toArray 295)).cell? ⟨w.heap.size + 1, x, none⟩ = some (.int .u32 ((Pl.stepN 4 x : Nat) : Int)) := by
 have hl : tab.length = 16 := by decide
 have h2 := Blk.cell (Blk.new (k := .u32) (e := 144) (w.alloc (.cells (tab.map (Value.int .u32)).toArray 295)) tab) x (by omega)
 rw [tab_getD h] at h2
 simpa using h2
theorem tab_store (w : World) : Sem.run Tryz.prog (storeCells ⟨w.heap.size + 1, 0, none⟩ (tab.map (Value.int .u32)))
  ((w.alloc (.cells (tab.map (Value.int .u32)).toArray 295)).alloc (.cells #[.int .u32 0, .int .u32 0, .int .u32 0, .int .u32 0, .int .u32 0, .int .u32 0, .int .u32 0, .int .u32 0, .int .u32 0, .int .u32 0, .int .u32 0, .int .u32 0, .int .u32 0, .int .u32 0, .int .u32 0, .int .u32 0] 295)) =
  .ok () ((w.alloc (.cells (tab.map (Value.int .u32)).toArray 295)).alloc (.cells (tab.map (Value.int .u32)).toArray 295)) := by
 rw [show tab = _ from steps_tab]
 simp [go_sem]
theorem two_below (w : World) (o p : Obj) : Below w.heap.size w ((w.alloc o).alloc p) := ((Below.refl _ _).alloc (Nat.le_refl _) _).alloc (by simp) _
set_option maxHeartbeats 1000000 in
theorem sumOf_any (pb po m pc : Nat) (A : Nat → Option Addr) (Nn C : Nat → Nat) (Z : Nat → List Int) (w : World) (hm : m ≤ 1048576) (hpb : pb < w.heap.size)
  (hN : ∀ t, t < m → Nn t ≤ 16777216) (hp : ∀ t, t < m → w.cell? ⟨pb, po + t, none⟩ = some (.slice (A t) (Nn t) (C t))) (hR : ∀ t, t < m → Rd w.heap.size w (A t) (Nn t) (Z t)) :
  Calls Tryz.prog 237 #[.slice (some ⟨pb, po, none⟩) m pc] w fun e w' => e = .returned (.int .u32 (crc (cat Z m))) ∧ Below w.heap.size w w' := by
 have hst := tab_store w
 have hbb := two_below w (.cells (tab.map (Value.int .u32)).toArray 295) (.cells (tab.map (Value.int .u32)).toArray 295)
 have htc := fun x => @tab_cell w x
 have HB := fun t ht => (hR t ht).below hbb
 have HP : ∀ t, t < m → ((w.alloc (.cells (tab.map (Value.int .u32)).toArray 295)).alloc (.cells (tab.map (Value.int .u32)).toArray 295)).cell? ⟨pb, po + t, none⟩ = some (.slice (A t) (Nn t) (C t)) := fun t ht => (hbb.cell (by exact hpb)).trans (hp t ht)
 have H : Hid (_ ∧ _ ∧ _ ∧ _) := ⟨hbb, htc, HB, HP⟩
 clear hbb htc HB HP hp hR
 go_enter Tryz.func237, Tryz.ntmps237
 go_wp2_with (go_at_call 242; refine (sumSteps_any _).mono ?_; rintro e w' ⟨rfl, rfl⟩)
 obtain ⟨hbb, htc, hR, hp⟩ := H
 clear hst
 have hcat : ∀ k, k ≤ m → reg (cat Z k) < 4294967296 := fun k hk => reg_lt (isB_cat fun t ht => (hR t (by omega)).2.1)
 generalize ((w.alloc (.cells (tab.map (Value.int .u32)).toArray 295)).alloc (.cells (tab.map (Value.int .u32)).toArray 295)) = w1 at *
 generalize w.heap.size + 1 = gt at *
 generalize (List.map (Value.int IntKind.u32) tab).toArray = ar at *
 go_loop [4, 12] (fun s i => ∃ k : Nat, k ≤ m ∧ i = .int .i64 (k : Int) ∧ s = .int .u32 ((reg (cat Z k) : Nat) : Int)) (fun _ i => m - (intOf i).toNat)
 case atStart => exact ⟨0, Nat.zero_le _, rfl, rfl⟩
 case round =>
  obtain ⟨k, hk, rfl, rfl⟩ := hrel
  by_cases hkm : k < m
  ·have hpk := hp k hkm
   have hNk := hN k hkm
   obtain ⟨hzl, hzb, hz3⟩ := hR k hkm
   have HC : Hid (cat Z (k + 1) = cat Z k ++ Z k) := rfl
   have hck : Pl.isB (cat Z k) := isB_cat fun t ht => (hR t (by omega)).2.1
   clear hp hN hR hcat
   generalize hL1 : cat Z (k + 1) = L1 at *
   have HL1 : Hid (cat Z (k + 1) = L1) := hL1
   clear hL1
   generalize cat Z k = L0 at *
   generalize A k = a at *
   generalize Nn k = n at *
   generalize C k = c at *
   generalize Z k = zs at *
   go_wp2
   go_loop [4, 18] (fun s i => ∃ j : Nat, j ≤ n ∧ i = .int .i64 (j : Int) ∧ s = .int .u32 ((reg (L0 ++ zs.take j) : Nat) : Int)) (fun _ i => n - (intOf i).toNat)
   case atStart => exact ⟨0, Nat.zero_le _, rfl, by simp⟩
   case round =>
    obtain ⟨j, hj, rfl, rfl⟩ := hrel
    by_cases hjn : j < n
    ·rcases hz3 with hz3 | ⟨b, off, rfl, hlt, hc⟩
     ·omega
     ·obtain ⟨z, hz⟩ : ∃ z : Nat, (z : Int) = zs.getD j 0 := ⟨(zs.getD j 0).toNat, by have := Pl.isB_getD hzb j; rw [List.getD_eq_getElem?_getD]; omega⟩
      have hz2 : z < 256 := by have := Pl.isB_getD hzb j; rw [List.getD_eq_getElem?_getD] at hz; omega
      have hcj := hc j hjn
      rw [← hz] at hcj
      have hS : reg (L0 ++ zs.take j) < 4294967296 := reg_lt (Pl.isB_append.2 ⟨hck, Pl.isB_take hzb j⟩)
      have hnext : reg (L0 ++ zs.take (j + 1)) = Pl.stepN 4 (Pl.stepN 4 (reg (L0 ++ zs.take j) ^^^ z)) := by
       rw [take_snoc (by omega), ← List.append_assoc, reg_snoc, ← List.getD_eq_getElem?_getD, ← hz, ← Pl.step8]; rfl
      have HN : Hid (reg (L0 ++ zs.take (j + 1)) = Pl.stepN 4 (Pl.stepN 4 (reg (L0 ++ zs.take j) ^^^ z))) := hnext
      clear hnext hc hz HC hck hzb
      generalize reg (L0 ++ zs.take j) = S at *
      have e1 := xor_u32 (S := S) (z := z) hS (by omega)
      have hT : S ^^^ z < 4294967296 := Nat.xor_lt_two_pow (n := 32) hS (by omega)
      generalize S ^^^ z = T at *
      have e2 := and15 hT
      have e3 := half hT
      have c1 := htc (T % 16) (by omega)
      have hT2 : Pl.stepN 4 T < 4294967296 := Pl.stepN_lt 4 hT
      generalize Pl.stepN 4 (T % 16) = q1 at *
      generalize Pl.stepN 4 T = T2 at *
      have e4 := and15 hT2
      have e5 := half hT2
      have c2 := htc (T2 % 16) (by omega)
      generalize Pl.stepN 4 (T2 % 16) = q2 at *
      generalize Pl.stepN 4 T2 = T3 at *
      clear htc
      go_wp2
      go_round
      case rel => exact ⟨j + 1, by omega, by go_num, by rw [HN.out]⟩
      case measure => simp [intOf]; omega
    ·have hjn' : zs.take j = zs := List.take_of_length_le (by omega)
     rw [hjn', ← HC.out]
     go_wp2
     go_round
     case rel => exact ⟨k + 1, by omega, by go_num, by rw [HL1.out]⟩
     case measure => simp [intOf]; omega
  ·have e : k = m := by omega
   subst e
   have e1 := not_u32 (hcat k (Nat.le_refl _))
   go_wp2
   go_ret
   refine ⟨?_, hbb⟩
   unfold crc
   rw [← e1]
   rfl
end Go.Proofs.YtlefjidbpjkhlaaGreat
