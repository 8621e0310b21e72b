/-
  CacheReads: alike, a Write: both writes.
-/
import Derived.Test.YtokgfnfgpjkpjaaCb9
namespace Go.Proofs.Ytokgfnfgpjkpjaa
open Go.RowKit

theorem Grown.trans {X Y X' Y' X2 Y2 : Nat → Prop} {w w1 : World} (h : Grown X Y X' Y' w) (h2 : Grown X' Y' X2 Y2 w1) (hs : w.heap.size ≤ w1.heap.size) : Grown X Y X2 Y2 w := fun k hk =>
  ⟨fun q => (h k hk).1 ((h2 k (by omega)).1 q), fun q => (h k hk).2 ((h2 k (by omega)).2 q)⟩
theorem RdS.low {B S S' : Nat} {w : World} {a : Option Addr} {n : Nat} {zs : List Int} (h : RdS B S w a n zs) (hs : S' ≤ S) : RdS B S' w a n zs := by
  obtain ⟨h1, h2, h3⟩ := h
  refine ⟨h1, h2, ?_⟩
  rcases h3 with h3 | ⟨b, off, rfl, hlt, hbs, hc⟩
  · exact .inl h3
  · exact .inr ⟨b, off, rfl, hlt, by omega, hc⟩
theorem Trio.keep {X Y X2 : Nat → Prop} {w w' : World} {c p p2 room : Nat} {hi mi : Int} {l : List (Int × List Int)} {img : List Int} {puts : List (Nat × List Int)} {fu : Int} {off : Bool} {nb : Nat} (h : Trio X Y X2 w c p p2 room hi mi l img puts fu off nb) (hk : ∀ k, X k ∨ Y k ∨ X2 k → k < w.heap.size → w'.heap[k]? = w.heap[k]?) : Trio X Y X2 w' c p p2 room hi mi l img puts fu off nb :=
  ⟨⟨h.cd.ca.keep (fun k q hl => hk k (.inr (.inl q)) hl), h.cd.dk.keep (fun k q hl => hk k (.inl q) hl), h.cd.dj⟩, h.d2.keep (fun k q hl => hk k (.inr (.inr q)) hl), h.dx⟩
theorem Trio.write2 {X Y X2 : Nat → Prop} {B S : Nat} {w0 V w1 : World} {c p p2 room m : Nat} {hi mi : Int} {l : List (Int × List Int)} {img : List Int} {puts : List (Nat × List Int)} {fu : Int} {off : Bool} {nb : Nat} (T : Trio X Y X2 V c p p2 room hi mi l img puts fu off nb) (hg : Good l img puts nb) (hp : puts.length ≤ m) (hh : 0 ≤ hi ∧ hi ≤ m) (hmi : 0 ≤ mi ∧ mi ≤ m) (h6 : ∀ k, X k ∨ Y k ∨ X2 k → B ≤ k ∧ k < S) (hS : S ≤ V.heap.size) (h7 : B ≤ S) (h8 : Below B w0 V) (hm : m ≤ 1073741823) (at_ : Int) (Z : List Int) {al : Option Addr} (cp1 : Nat) (r1 : RdS B S w1 al Z.length Z) (b1 : Below S V w1) :
    Calls Try.prog 10 #[.pointer (some ⟨c, 0, none⟩), .int .i64 at_, .slice al Z.length cp1] w1 fun e w2 => e = .returned (.int .i64 (writeC off fu nb at_ Z.length)) ∧ w1.heap.size ≤ w2.heap.size ∧ Below B w0 w2 ∧ (∀ k, S ≤ k → k < w1.heap.size → w2.heap[k]? = w1.heap[k]?) ∧
      ∀ w3 al2 cp2, RdS B S w3 al2 Z.length Z → Below w2.heap.size w2 w3 → Calls Try.prog 30 #[.pointer (some ⟨p2, 0, none⟩), .int .i64 at_, .slice al2 Z.length cp2] w3 fun e w4 => e = .returned (.int .i64 (writeC off fu nb at_ Z.length)) ∧ Duo B w0 w4 c p p2 room nb (m + 1) ∧ (∀ k, S ≤ k → k < w3.heap.size → w4.heap[k]? = w3.heap[k]?) := by
  have s1 := b1.size
  have T1 : Trio X Y X2 w1 c p p2 room hi mi l img puts fu off nb := T.keep (fun k q _ => b1.block k (h6 k q).2)
  have u1 : Below B w0 w1 := h8.trans (b1.mono h7)
  refine Calls.mono (CWrite_any T1.cd (by omega) at_ al Z.length cp1 Z (r1.rdn (fun k q => h6 k (.inl q)))) ?_
  rintro e w2 ⟨rfl, ⟨X', Y', cd1, g1⟩, b2⟩
  have s2 := b2.size
  refine ⟨rfl, s2, u1.trans (b2.below (by omega) (fun k hk q => ?_)), fun k hk hl => b2.block k hl (fun q => ?_), fun w3 al2 cp2 r3 b3 => ?_⟩
  · rcases q with q | q
    · have := h6 k (.inl q); omega
    · have := h6 k (.inr (.inl q)); omega
  · rcases q with q | q
    · have := h6 k (.inl q); omega
    · have := h6 k (.inr (.inl q)); omega
  · have d2 := (T1.next cd1 g1 b2).1.below b3
    obtain ⟨X3, Y3, cd3, g3⟩ := cd1.below b3
    refine Calls.mono (Write_any d2 (by omega) at_ al2 Z.length cp2 Z (r3.rdn (fun k q => h6 k (.inr (.inr q.1))))) ?_
    rintro e w4 ⟨rfl, d4, b4⟩
    refine ⟨rfl, Duo.of T1 (fun k q => (h6 k q).1) (by omega) u1 cd3 (g1.trans g3 s2) (b2.trans (But.of_below b3)) d4 b4 (hg.wrote room off fu at_ Z) ?_ (by omega) (by omega), fun k hk hl => b4.block k hl (fun q => ?_)⟩
    · split
      · simp; omega
      · omega
    · have := h6 k (.inr (.inr q.1)); omega

end Go.Proofs.Ytokgfnfgpjkpjaa
