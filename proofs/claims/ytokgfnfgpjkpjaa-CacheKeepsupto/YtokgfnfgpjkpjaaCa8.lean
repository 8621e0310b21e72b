/-
  Package cache: Write.
-/
import Derived.Test.YtokgfnfgpjkpjaaCa7
namespace Go.Proofs.Ytokgfnfgpjkpjaa
open Go.RowKit Go.ChangeMaps

/-- a cache (in Y) on its disk (in X) -/
structure CD (X Y : Nat → Prop) (w : World) (c p room : Nat) (hi mi : Int) (l : List (Int × List Int)) (img : List Int) (puts : List (Nat × List Int)) (fu : Int) (off : Bool) (nb : Nat) : Prop where
  ca : Cst Y w c p room hi mi l
  dk : Dk X w p img puts fu off nb
  dj : ∀ k, Y k → ¬ X k
/-- what was there belongs to whom it belonged -/
def Grown (X Y X' Y' : Nat → Prop) (w : World) : Prop := ∀ k, k < w.heap.size → (X' k → X k) ∧ (Y' k → Y k)
theorem wf_small {x : Int} (h0 : 0 ≤ x) (h1 : x < 524288) : (Lit.int .i64 x).wf = true := WalkArith.wf_i64 (by omega)
/-- behind a call of the disk and a clone: what hold does -/
theorem CD.held {X Y : Nat → Prop} {w w1 w2 : World} {c p room : Nat} {hi mi : Int} {l : List (Int × List Int)} {img img' : List Int} {puts puts' : List (Nat × List Int)} {fu fu' : Int} {off off' : Bool} {nb : Nat} (h : CD X Y w c p room hi mi l img puts fu off nb) (d1 : Dk (fun k => X k ∨ w.heap.size ≤ k) w1 p img' puts' fu' off' nb) (b1 : But X w w1) (b2 : Below w1.heap.size w1 w2) {g cap : Nat} {zs : List Int} (hg : w1.heap.size ≤ g) (o2 : Own w2 g 512 cap zs) (hb : Pl.isB zs) {x : Int} (hwf : (Lit.int .i64 x).wf = true) :
    Calls Try.prog 29 #[.pointer (some ⟨c, 0, none⟩), .int .i64 x, .slice (some ⟨g, 0, none⟩) 512 cap] w2 fun q w' => q = .returned (.tuple #[]) ∧ (∃ X' Y', CD X' Y' w' c p room hi mi (holdL room l x zs) img' puts' fu' off' nb ∧ Grown X Y X' Y' w) ∧ But (fun k => X k ∨ Y k) w w' ∧ Own w' g 512 cap zs := by
  have s1 := b1.size
  have s2 := b2.size
  have ca1 : Cst (fun k => Y k ∧ k < w.heap.size) w1 c p room hi mi l := h.ca.cut.but b1 (fun k q => h.dj k q.1)
  have ca2 : Cst (fun k => (Y k ∧ k < w.heap.size) ∨ k = g) w2 c p room hi mi l := (ca1.keep (fun k q _ => b2.block k (by omega))).mono (fun k _ q => .inl q)
  refine Calls.mono (hold_any ca2 o2 hb (.inr rfl) hwf) ?_
  rintro q w3 ⟨rfl, ca3, b3, ow⟩
  have s3 := b3.size
  have d3 : Dk (fun k => (X k ∨ w.heap.size ≤ k) ∧ k < w1.heap.size) w3 p img' puts' fu' off' nb := (d1.cut.below b2).but b3 (fun k q => by
    rintro (⟨q1, q2⟩ | q1)
    · rcases q.1 with q3 | q3
      · exact h.dj k q1 q3
      · omega
    · omega)
  refine ⟨rfl, ⟨_, _, ⟨ca3, d3, fun k q => ?_⟩, fun k hk => ⟨fun q => ?_, fun q => ?_⟩⟩, ?_, ow⟩
  · rintro ⟨q3, q4⟩
    rcases q with (⟨q1, q2⟩ | q1) | q1
    · rcases q3 with q3 | q3
      · exact h.dj k q1 q3
      · omega
    · omega
    · omega
  · rcases q.1 with q3 | q3
    · exact q3
    · omega
  · rcases q with (⟨q1, q2⟩ | q1) | q1
    · exact q1
    · omega
    · omega
  · exact (b1.mono (fun k _ q => .inl q)).comp ((But.of_below b2 (X := fun k => (Y k ∧ k < w.heap.size) ∨ k = g)).trans b3) (fun k hk q => by
      rcases q with ⟨q1, q2⟩ | q1
      · exact .inr q1
      · omega)
def writeL (room : Nat) (l : List (Int × List Int)) (off : Bool) (fu : Int) (nb : Nat) (x : Int) (zs : List Int) : List (Int × List Int) := if writeC off fu nb x zs.length = 0 then holdL room l x zs else l
set_option maxRecDepth 100000 in
set_option maxHeartbeats 1000000 in
theorem CWrite_ok {X Y : Nat → Prop} {w : World} {c p room : Nat} {hi mi : Int} {l : List (Int × List Int)} {img : List Int} {puts : List (Nat × List Int)} {fu : Int} {off : Bool} {nb : Nat} (h : CD X Y w c p room hi mi l img puts fu off nb) (hl : puts.length ≤ 1073741823) (x : Int) (ad : Option Addr) (n cp : Nat) (zs : List Int) (hR : RdN X w ad n zs) (hz : writeC off fu nb x n = 0) :
    Calls Try.prog 10 #[.pointer (some ⟨c, 0, none⟩), .int .i64 x, .slice ad n cp] w fun e w' => e = .returned (.int .i64 0) ∧ (∃ X' Y', CD X' Y' w' c p room hi mi (holdL room l x zs) img (puts ++ [(x.toNat, zs)]) (burnF fu) (burnO fu off) nb ∧ Grown X Y X' Y' w) ∧ But (fun k => X k ∨ Y k) w w' := by
  obtain ⟨hof, hx0, hx1, hn, hbc⟩ : off = false ∧ 0 ≤ x ∧ x < nb ∧ n = 512 ∧ burnC fu = 0 := by
    unfold writeC at hz
    split at hz
    · omega
    · split at hz
      · omega
      · split at hz
        · omega
        · exact ⟨by simpa using ‹¬ off = true›, by omega, by omega, by omega, hz⟩
  have hF : writeF off fu nb x n = burnF fu := by unfold writeF; rw [if_pos ⟨hof, by omega, hn⟩]
  have hO : writeO off fu nb x n = burnO fu off := by unfold writeO; rw [if_pos ⟨hof, by omega, hn⟩]
  subst hn
  obtain ⟨b, o, rfl, hbl, hbX, hbc⟩ : ∃ b o, ad = some ⟨b, o, none⟩ ∧ b < w.heap.size ∧ ¬ X b ∧ ∀ t, t < 512 → w.cell? ⟨b, o + t, none⟩ = some (.int .u8 (zs.getD t 0)) := by
    rcases hR.2.2 with q | q
    · omega
    · exact q
  have hnb := h.dk.facts.2.2.2
  have hwf := wf_small (x := x) hx0 (by omega)
  obtain ⟨v2, v3, hg, hYc, _⟩ := h.ca.cg
  have c0 : w.cell? ⟨c, 0, none⟩ = some (.pointer (some ⟨p, 0, none⟩)) := hg.cell 0
  have hcl := hg.lt
  have HW := hid (Write_any h.dk hl x (some ⟨b, o, none⟩) 512 cp zs hR)
  rw [hz, hF, hO, if_pos rfl] at HW
  have HH := hid (And.intro h hR)
  clear h hR hg
  go_enter Try.func10, Try.ntmps10
  go_wp2_with fail
  refine Calls.mono HW.out ?_
  rintro q w1 ⟨rfl, d1, b1⟩
  have R1 : Rd w1.heap.size w1 (some ⟨b, o, none⟩) 512 zs := ⟨HH.out.2.1, HH.out.2.2.1, .inr ⟨b, o, rfl, Nat.lt_of_lt_of_le hbl b1.size, fun t ht => (b1.cell (p := ⟨b, o + t, none⟩) hbl hbX).trans (hbc t ht)⟩⟩
  have HC := hid (Clone_any ⟨b, o, none⟩ 512 cp zs w1 (by omega) R1)
  have K1 := hid (And.intro d1 b1)
  clear d1 b1 R1 HW
  go_wp2_with fail
  refine Calls.mono HC.out ?_
  rintro q w2 ⟨g, cap, rfl, g2, o2, b2⟩
  have HD := hid (HH.out.1.held K1.out.1 K1.out.2 b2 g2 o2 HH.out.2.2.1 hwf)
  clear o2 b2 HC
  go_wp2_with fail
  refine Calls.mono HD.out ?_
  rintro q w3 ⟨rfl, h3, b3, _⟩
  have FIN := hid (And.intro h3 b3)
  clear h3 b3 HD HH K1
  go_wp2
  go_ret
  exact ⟨rfl, FIN.out.1, FIN.out.2⟩
set_option maxRecDepth 100000 in
set_option maxHeartbeats 1000000 in
theorem CWrite_bad {X Y : Nat → Prop} {w : World} {c p room : Nat} {hi mi : Int} {l : List (Int × List Int)} {img : List Int} {puts : List (Nat × List Int)} {fu : Int} {off : Bool} {nb : Nat} (h : CD X Y w c p room hi mi l img puts fu off nb) (hl : puts.length ≤ 1073741823) (x : Int) (ad : Option Addr) (n cp : Nat) (zs : List Int) (hR : RdN X w ad n zs) (hz : writeC off fu nb x n ≠ 0) :
    Calls Try.prog 10 #[.pointer (some ⟨c, 0, none⟩), .int .i64 x, .slice ad n cp] w fun e w' => e = .returned (.int .i64 (writeC off fu nb x n)) ∧ (∃ X' Y', CD X' Y' w' c p room hi mi l img puts (writeF off fu nb x n) (writeO off fu nb x n) nb ∧ Grown X Y X' Y' w) ∧ But (fun k => X k ∨ Y k) w w' := by
  obtain ⟨v2, v3, hg, hYc, _⟩ := h.ca.cg
  have c0 : w.cell? ⟨c, 0, none⟩ = some (.pointer (some ⟨p, 0, none⟩)) := hg.cell 0
  have HW := hid (Write_any h.dk hl x ad n cp zs hR)
  rw [if_neg hz] at HW
  have HH := hid h
  clear h hR hg
  generalize writeC off fu nb x n = cd at *
  generalize writeF off fu nb x n = fu' at *
  generalize writeO off fu nb x n = off' at *
  go_enter Try.func10, Try.ntmps10
  go_wp2_with fail
  refine Calls.mono HW.out ?_
  rintro q w1 ⟨rfl, d1, b1⟩
  have FIN : Hid ((∃ X' Y', CD X' Y' w1 c p room hi mi l img puts fu' off' nb ∧ Grown X Y X' Y' w) ∧ But (fun k => X k ∨ Y k) w w1) := by
    refine ⟨⟨_, _, ⟨HH.out.ca.cut.but b1 (fun k q => HH.out.dj k q.1), d1, fun k q q' => ?_⟩, fun k hk => ⟨fun q => ?_, fun q => q.1⟩⟩, b1.mono (fun k _ q => .inl q)⟩
    · rcases q' with q' | q'
      · exact HH.out.dj k q.1 q'
      · omega
    · rcases q with q | q
      · exact q
      · omega
  clear d1 b1 HW HH
  go_wp2
  go_ret
  exact ⟨rfl, FIN.out.1, FIN.out.2⟩

end Go.Proofs.Ytokgfnfgpjkpjaa
