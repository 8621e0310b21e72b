/-
  CacheReads: alike, a Read.
-/
import Derived.Test.YtokgfnfgpjkpjaaCb5
namespace Go.Proofs.Ytokgfnfgpjkpjaa
open Go.RowKit

/-- the cache on its disk, and the other disk: in one state; m acts were done -/
def Duo (B : Nat) (w0 w : World) (c p p2 room nb m : Nat) : Prop := ∃ X Y X2 hi mi l img puts fu off, Trio X Y X2 w c p p2 room hi mi l img puts fu off nb ∧ Good l img puts nb ∧ puts.length ≤ m ∧ (0 ≤ hi ∧ hi ≤ m) ∧ (0 ≤ mi ∧ mi ≤ m) ∧ (∀ k, X k ∨ Y k ∨ X2 k → B ≤ k) ∧ B ≤ w.heap.size ∧ Below B w0 w
theorem Trio.below {X Y X2 : Nat → Prop} {w w' : World} {c p p2 room : Nat} {hi mi : Int} {l : List (Int × List Int)} {img : List Int} {puts : List (Nat × List Int)} {fu : Int} {off : Bool} {nb : Nat} (h : Trio X Y X2 w c p p2 room hi mi l img puts fu off nb) (b : Below w.heap.size w w') : Trio (fun k => X k ∧ k < w.heap.size) (fun k => Y k ∧ k < w.heap.size) (fun k => X2 k ∧ k < w.heap.size) w' c p p2 room hi mi l img puts fu off nb :=
  ⟨⟨h.cd.ca.cut.keep (fun k _ hk => b.block k hk), h.cd.dk.cut.below b, fun k q q' => h.cd.dj k q.1 q'.1⟩, h.d2.cut.below b, fun k q => ⟨fun q' => (h.dx k q.1).1 q'.1, fun q' => (h.dx k q.1).2 q'.1⟩⟩
theorem Duo.below {B : Nat} {w0 w w' : World} {c p p2 room nb m : Nat} (h : Duo B w0 w c p p2 room nb m) (b : Below w.heap.size w w') : Duo B w0 w' c p p2 room nb m := by
  obtain ⟨X, Y, X2, hi, mi, l, img, puts, fu, off, h1, h2, h3, h4, h5, h6, h7, h8⟩ := h
  exact ⟨_, _, _, hi, mi, l, img, puts, fu, off, h1.below b, h2, h3, h4, h5, fun k q => h6 k (by rcases q with q | q | q; exact .inl q.1; exact .inr (.inl q.1); exact .inr (.inr q.1)), Nat.le_trans h7 b.size, h8.trans (b.mono h7)⟩
theorem Duo.more {B : Nat} {w0 w : World} {c p p2 room nb m : Nat} (h : Duo B w0 w c p p2 room nb m) : Duo B w0 w c p p2 room nb (m + 1) := by
  obtain ⟨X, Y, X2, hi, mi, l, img, puts, fu, off, h1, h2, h3, h4, h5, h6⟩ := h
  exact ⟨X, Y, X2, hi, mi, l, img, puts, fu, off, h1, h2, by omega, by omega, by omega, h6⟩
/-- behind a call of the cache: the other disk is as it was -/
theorem Trio.next {X Y X2 X' Y' : Nat → Prop} {w w' : World} {c p p2 room : Nat} {hi mi hi' mi' : Int} {l l' : List (Int × List Int)} {img img' : List Int} {puts puts' : List (Nat × List Int)} {fu fu' : Int} {off off' : Bool} {nb : Nat} (h : Trio X Y X2 w c p p2 room hi mi l img puts fu off nb) (_h' : CD X' Y' w' c p room hi' mi' l' img' puts' fu' off' nb) (hg : Grown X Y X' Y' w) (b : But (fun k => X k ∨ Y k) w w') : Dk (fun k => X2 k ∧ k < w.heap.size) w' p2 img puts fu off nb ∧ ∀ k, (X2 k ∧ k < w.heap.size) → ¬ X' k ∧ ¬ Y' k :=
  ⟨h.d2.cut.but b (fun k q q' => by
    rcases q' with q' | q'
    · exact (h.dx k q.1).1 q'
    · exact (h.dx k q.1).2 q'), fun k q => ⟨fun q' => (h.dx k q.1).1 ((hg k q.2).1 q'), fun q' => (h.dx k q.1).2 ((hg k q.2).2 q')⟩⟩
theorem Dk.isB_read {X : Nat → Prop} {w : World} {p : Nat} {img : List Int} {puts : List (Nat × List Int)} {fu : Int} {off : Bool} {nb : Nat} (h : Dk X w p img puts fu off nb) (x : Int) : Pl.isB (readR img puts off nb x).2 := by
  unfold readR
  split
  · intro z hz; cases hz
  · split
    · intro z hz; cases hz
    · exact (h.seen (by omega)).2
theorem rd_of {w : World} {al : Option Addr} {cp S : Nat} {zs : List Int} (hb : Pl.isB zs) (h : (al = none ∧ cp = 0 ∧ zs = []) ∨ ∃ g, al = some ⟨g, 0, none⟩ ∧ S ≤ g ∧ Own w g zs.length cp zs) : Rd w.heap.size w al zs.length zs := by
  rcases h with ⟨rfl, _, rfl⟩ | ⟨g, rfl, _, ho⟩
  · exact ⟨rfl, hb, .inl rfl⟩
  · exact ho.rd hb
def cactV (wh kd at_ fi : Int) (ra : Value) : Value := .agg #[.int .i64 wh, .int .i64 kd, .int .i64 at_, .int .i64 fi, ra]
set_option maxRecDepth 100000 in
set_option maxHeartbeats 4000000 in
theorem alike1 {B : Nat} {w0 w : World} {c p p2 room nb m : Nat} (h : Duo B w0 w c p p2 room nb m) (hm : m ≤ 1073741823) (wh at_ fi : Int) (ra : Value) (hwf : (Lit.int .i64 at_).wf = true) :
    Calls Try.prog 19 #[.pointer (some ⟨c, 0, none⟩), .pointer (some ⟨p2, 0, none⟩), cactV wh 1 at_ fi ra] w fun q w' => q = .returned (.bool true) ∧ Duo B w0 w' c p p2 room nb (m + 1) := by
  unfold cactV
  obtain ⟨X, Y, X2, hi, mi, l, img, puts, fu, off, h1, h2, h3, h4, h5, h6, h7, h8⟩ := h
  obtain ⟨W, hW⟩ : ∃ W, W = w.alloc (.cells #[.int .i64 wh, .int .i64 1, .int .i64 at_, .int .i64 fi, ra] 42) := ⟨_, rfl⟩
  have bW : Below w.heap.size w W := by rw [hW]; exact (Below.refl _ _).alloc (Nat.le_refl _) _
  have zW : W.heap.size = w.heap.size + 1 := by rw [hW]; simp
  have T := h1.below bW
  have c2 : W.cell? ⟨w.heap.size, 2, none⟩ = some (.int .i64 at_) := by rw [hW]; exact cell_new rfl 2 _ rfl
  have HR := hid (CRead_any T.cd h2 (by omega) hwf (by omega) (by omega))
  have HZ : Hid (Pl.isB (readR img puts off nb at_).2) := h1.cd.dk.isB_read at_
  have HG := hid (h2.read room off at_)
  have HN : Hid (0 ≤ hitN l (readR img puts off nb at_).1 at_ ∧ hitN l (readR img puts off nb at_).1 at_ ≤ 1 ∧ 0 ≤ missN l (readR img puts off nb at_).1 at_ ∧ missN l (readR img puts off nb at_).1 at_ ≤ 1) := by
    unfold hitN missN
    refine ⟨?_, ?_, ?_, ?_⟩ <;> split <;> omega
  have HT := hid (And.intro T (And.intro h6 (And.intro h7 (And.intro h8 (And.intro bW zW)))))
  generalize hitN l (readR img puts off nb at_).1 at_ = n1 at *
  generalize missN l (readR img puts off nb at_).1 at_ = n2 at *
  have HR2 : Hid (∀ w1, Dk (fun k => (X2 k ∧ k < w.heap.size) ∧ k < W.heap.size) w1 p2 img puts fu off nb → Calls Try.prog 28 #[.pointer (some ⟨p2, 0, none⟩), .int .i64 at_] w1 fun e w' => ∃ al c, e = .returned (.tuple #[.slice al (readR img puts off nb at_).2.length c, .int .i64 (readR img puts off nb at_).1]) ∧
      ((al = none ∧ c = 0 ∧ (readR img puts off nb at_).2 = []) ∨ ∃ g, al = some ⟨g, 0, none⟩ ∧ w1.heap.size ≤ g ∧ Own w' g (readR img puts off nb at_).2.length c (readR img puts off nb at_).2) ∧ Below w1.heap.size w1 w') := fun w1 d => Read_any d at_ (by omega)
  generalize readL room l (readR img puts off nb at_) at_ = l' at *
  generalize (readR img puts off nb at_).2 = Z at *
  generalize (readR img puts off nb at_).1 = C at *
  clear T h1 h2 h6 h8 bW
  go_enter Try.func19, Try.ntmps19
  go_wp2_with fail
  rw [← hW]
  refine Calls.mono HR.out ?_
  rintro q w1 ⟨al, cp, rfl, o1, ⟨X', Y', cd1, g1⟩, b1⟩
  have d2 := (b1.cell (p := ⟨w.heap.size, 2, none⟩) (show w.heap.size < W.heap.size by omega) (fun q => by rcases q with ⟨_, q⟩ | ⟨_, q⟩ <;> exact Nat.lt_irrefl _ q)).trans c2
  have K1 := hid (And.intro o1 (And.intro cd1 (And.intro g1 b1)))
  have HQ := hid (HR2.out w1 (HT.out.1.next cd1 g1 b1).1)
  clear o1 cd1 g1 b1 HR HR2 c2
  go_wp2_with fail
  refine Calls.mono HQ.out ?_
  rintro q w2 ⟨al2, cp2, rfl, o2, b2⟩
  have r2 := rd_of HZ.out o2
  have r1 : Rd w2.heap.size w2 al Z.length Z := by
    obtain ⟨q1, q2, q3⟩ := (rd_of HZ.out K1.out.1).below b2
    refine ⟨q1, q2, ?_⟩
    rcases q3 with q3 | ⟨b, o, e1, e2, e3⟩
    · exact .inl q3
    · exact .inr ⟨b, o, e1, Nat.lt_of_lt_of_le e2 b2.size, e3⟩
  have HS := hid (SameBytes_eq w2.heap.size al al2 Z.length cp Z.length cp2 Z w2 r1 r2)
  have FIN : Hid (Duo B w0 w2 c p p2 room nb (m + 1)) := by
    obtain ⟨T, h6, h7, h8, bW, zW⟩ := HT.out
    obtain ⟨o1, cd1, g1, b1⟩ := K1.out
    obtain ⟨d3, dx⟩ := T.next cd1 g1 b1
    have T1 : Trio X' Y' _ w1 c p p2 room (hi + n1) (mi + n2) l' img puts fu off nb := ⟨cd1, d3, dx⟩
    have s1 := b1.size
    have hn := HN.out
    refine ⟨_, _, _, hi + n1, mi + n2, l', img, puts, fu, off, (T1.below b2), HG.out, by omega, by omega, by omega, ?_, by have := b2.size; omega, ?_⟩
    · intro k q
      by_cases hk : k < W.heap.size
      · rcases q with q | q | q
        · exact h6 k (.inl ((g1 k hk).1 q.1).1)
        · exact h6 k (.inr (.inl ((g1 k hk).2 q.1).1))
        · exact h6 k (.inr (.inr q.1.1.1))
      · omega
    · exact h8.trans ((bW.mono h7).trans (((b1.below (B := B) (by omega) (fun k hk q => by
        rcases q with q | q
        · have := h6 k (.inl q.1); omega
        · have := h6 k (.inr (.inl q.1)); omega))).trans (b2.mono (by omega))))
  clear r1 r2 o2 b2 HQ K1 HT HG HZ HN
  go_wp2_with fail
  refine Calls.mono HS.out ?_
  rintro q w3 ⟨rfl, rfl⟩
  clear HS
  go_wp2
  go_ret
  exact ⟨rfl, FIN.out⟩

end Go.Proofs.Ytokgfnfgpjkpjaa
