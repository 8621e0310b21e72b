/-
  FieldPacks: the record and the row side by side; one Pack held against the document's (function 26).
-/
import Derived.Test.YteaebdonnicbkaaRow3
import Derived.Test.YteaebdonnicbkaaRPk
import Derived.Test.YteaebdonnicbkaaStV
namespace Go.Proofs.Yteaebdonnicbkaa
open Go.RowKit

/-- the record in block b, the row in block r; Y: blocks among which theirs are -/
def StR (B : Nat) (Y : Nat → Prop) (w : World) (r b cnt tot nK : Nat) : Prop :=
  ∃ bv X, RS1 w r bv ∧ Bok B X w b cnt tot nK ∧ (∀ x, XL r bv x → ¬ X x) ∧ (∀ x, X x → Y x ∧ B ≤ x ∧ x < w.heap.size) ∧ (∀ x, XL r bv x → Y x ∧ B ≤ x)
theorem StR.mono {B : Nat} {Y Y' : Nat → Prop} {w : World} {r b cnt tot nK : Nat} (h : StR B Y w r b cnt tot nK) (hy : ∀ x, Y x → Y' x) : StR B Y' w r b cnt tot nK := by
  obtain ⟨bv, X, h1, h2, h3, h4, h5⟩ := h
  exact ⟨bv, X, h1, h2, h3, fun x hx => ⟨hy x (h4 x hx).1, (h4 x hx).2⟩, fun x hx => ⟨hy x (h5 x hx).1, (h5 x hx).2⟩⟩
theorem StR.but {B : Nat} {Y Z : Nat → Prop} {w w' : World} {r b cnt tot nK : Nat} (h : StR B Y w r b cnt tot nK) (hb : But Z w w') (hz : ∀ x, Y x → ¬ Z x) : StR B Y w' r b cnt tot nK := by
  obtain ⟨bv, X, h1, h2, h3, h4, h5⟩ := h
  exact ⟨bv, X, h1.but hb (fun x hx => hz x (h5 x hx).1), h2.but hb (fun x _ hx => hz x (h4 x hx).1), h3, fun x hx => ⟨(h4 x hx).1, (h4 x hx).2.1, Nat.lt_of_lt_of_le (h4 x hx).2.2 hb.size⟩, h5⟩
theorem StR.cut {B : Nat} {Y : Nat → Prop} {w : World} {r b cnt tot nK : Nat} (h : StR B Y w r b cnt tot nK) : StR B (fun x => B ≤ x ∧ x < w.heap.size) w r b cnt tot nK := by
  obtain ⟨bv, X, h1, h2, h3, h4, h5⟩ := h
  exact ⟨bv, X, h1, h2, h3, fun x hx => ⟨(h4 x hx).2, (h4 x hx).2⟩, fun x hx => ⟨⟨(h5 x hx).2, h1.there hx⟩, (h5 x hx).2⟩⟩

set_option maxRecDepth 100000 in
set_option maxHeartbeats 4000000 in
theorem packs_any (B : Nat) (Y : Nat → Prop) (w : World) (r b cnt tot nK : Nat) (a : Option Addr) (m c : Nat) (fs : List (Int × Int)) (hB : B ≤ w.heap.size) (hnK : nK ≤ 67108000) (hc : cnt ≤ 8388000) (ht : tot ≤ 536870912) (hm : m ≤ 1048576)
    (hnil : a = none → c = 0) (h : StR B Y w r b cnt tot nK) (hR : RFN Y w a m fs) :
    Calls Try.prog 26 #[.slice a m c, .pointer (some ⟨r, 0, none⟩), .pointer (some ⟨b, 0, none⟩)] w fun e w' => e = .returned (.bool true) ∧
      ∃ tot' nK', tot' ≤ tot + 8 * m ∧ nK' ≤ nK + 15 ∧ StR B (fun x => Y x ∨ w.heap.size ≤ x) w' r b (cnt + 1) tot' nK' ∧ But Y w w' := by
  obtain ⟨bv, X, h1, h2, h3, h4, h5⟩ := h
  have hfl := hR.1
  have hfv := hR.2.1
  have HLd := hid (rlend_any r bv a m c fs w (by omega) hnil h1 (hR.mono (Y := XL r bv) (fun x _ hx => (h5 x hx).1)))
  have Hh := hid (And.intro h1 (And.intro h2 (And.intro h3 (And.intro h4 h5))))
  have HR := hid hR
  clear h1 h2 h3 h4 h5 hR
  go_enter Try.func26, Try.ntmps26
  go_wp2_with fail
  refine Calls.mono HLd.out ?_
  rintro e w1 ⟨G, M, rfl, hLent, hG, hb1⟩
  have L1 := hid hLent
  have HG := hid hG
  have Hb1 := hid hb1
  have R1 := hid (HR.out.but (hb1.mono (Y := Y) (fun x _ hx => (Hh.out.2.2.2.2 x hx).1)))
  have HPk := hid (Pack_any (some ⟨G, 0, none⟩) m M fs w1 (by omega) (hLent.rd hfl hfv))
  clear hLent hG hb1 HLd
  go_wp2_with fail
  refine Calls.mono HPk.out ?_
  rintro e w2 ⟨al, rfl, hal, hZb, hZl, hb2⟩
  have R2 := hid (R1.out.but (But.of_below hb2))
  have HRf := hid (refPack_any a m c fs w2 (by omega) R2.out.rd)
  clear HPk
  generalize (packR fs).1 = C at *
  generalize (packR fs).2 = Z at *
  have L2 := hid (L1.out.but (But.of_below (X := fun _ => False) hb2) (fun h => h) (fun h => h))
  have HG1 : Hid (G < w1.heap.size) := by
    obtain ⟨ys, hB', _⟩ := L1.out.buf
    exact hB'.lt
  have Hal := hid hal
  have Hb2 := hid hb2
  clear hal hb2
  go_wp2_with fail
  refine Calls.mono HRf.out ?_
  rintro e w3 ⟨a2, n2, c2, rfl, hR3, hb3⟩
  have HR3 := hid hR3
  have Hb3 := hid hb3
  clear hR3 hb3 HRf
  go_wp2_with fail
  refine (num_any C w3).mono ?_
  rintro e w5 ⟨rfl, e5⟩
  have e6 := e5.symm
  subst e6
  clear e5
  have RZ : Hid (Rd w3.heap.size w3 al Z.length Z) := by
    show Rd _ _ _ _ _
    rcases Hal.out with ⟨e1, e2⟩ | ⟨g, e1, _, e2⟩
    · exact ⟨rfl, hZb, .inl (by rw [e2]; rfl)⟩
    · rw [e1]
      have := e2.but (But.of_below (X := fun _ => False) Hb3.out) (fun h => h)
      exact Rd.of_blk this hZb this.lt
  go_wp2_with fail
  refine (SameBytes_eq w3.heap.size al a2 Z.length Z.length n2 c2 Z w3 RZ.out HR3.out).mono ?_
  rintro e w5 ⟨rfl, e5⟩
  have e6 := e5.symm
  subst e6
  clear e5
  have L3 := hid (L2.out.but (But.of_below (X := fun _ => False) Hb3.out) (fun h => h) (fun h => h))
  have R3 := hid (R2.out.but (But.of_below Hb3.out))
  have HBk := hid (rback_any r G M m c a fs w3 (by omega) L3.out R3.out.rd)
  clear RZ HR3
  go_wp2_with fail
  refine Calls.mono HBk.out ?_
  rintro e w4 ⟨rfl, hb4⟩
  obtain ⟨h1, h2, h3, h4, h5⟩ := Hh.out
  have hXG : ¬ X G := by
    intro hx
    rcases HG.out with hg | hg
    · exact h3 G (.inr hg) hx
    · have h6 := (h4 G hx).2.2
      omega
  have hG1 : G < w1.heap.size := HG1.out
  have z1 := Hb1.out.size
  have z2 := Hb2.out.size
  have z3 := Hb3.out.size
  have z4 := hb4.size
  have bk4 : Bok B X w4 b cnt tot nK := by
    refine (((h2.but Hb1.out (fun x _ hx hl => h3 x hl hx)).but (But.of_below (X := fun _ => False) Hb2.out) (fun _ _ _ h => h)).but (But.of_below (X := fun _ => False) Hb3.out) (fun _ _ _ h => h)).but (But.of_below (X := fun _ => False) hb4) (fun _ _ _ h => h)
  have HO := hid (Own_any B X w4 b cnt tot nK al Z m (by omega) (by omega) (by omega) (by omega) (by omega) (by omega) (by omega) bk4 hZb (by
    rcases Hal.out with ⟨e1, e2⟩ | ⟨g, e1, hg, e2⟩
    · exact .inl ⟨e1, e2⟩
    · refine .inr ⟨g, e1, (e2.but (But.of_below (X := fun _ => False) Hb3.out) (fun h => h)).but (But.of_below (X := fun _ => False) hb4) (fun h => h), fun hx => ?_, by omega⟩
      have := (h4 _ hx).2.2
      omega))
  have U4 : Hid (But Y w w4) := by
    show But Y w w4
    exact (((Hb1.out.mono (Y := Y) (fun x _ h => (h5 x h).1)).trans (But.of_below Hb2.out)).trans (But.of_below Hb3.out)).trans (But.of_below hb4)
  have L4 := hid (L3.out.but (But.of_below (X := fun _ => False) hb4) (fun h => h) (fun h => h)).done
  have Hz := hid (And.intro z1 (And.intro z2 (And.intro z3 z4)))
  have HX := hid (And.intro hXG hG1)
  clear hb4 bk4 HBk z1 z2 z3 z4 hXG h1 h2 h3 h4 h5 L1 L2 L3
  go_wp2_with fail
  refine Calls.mono HO.out ?_
  rintro e w6 ⟨rfl, nK', hnK', bk6, u6⟩
  have hHo := hid (Holds_any B _ w6 b (cnt + 1) (tot + Z.length) nK' (by omega) bk6.cut)
  have U6 := hid u6
  clear bk6 u6 HO
  go_wp2_with fail
  refine Calls.mono hHo.out ?_
  rintro e w7 ⟨rfl, bk7, u7⟩
  have K7 := hid bk7
  have U7 := hid u7
  clear bk7 u7 hHo
  go_wp2
  go_ret
  obtain ⟨h1, h2, h3, h4, h5⟩ := Hh.out
  obtain ⟨z1, z2, z3, z4⟩ := Hz.out
  obtain ⟨hXG, hG1⟩ := HX.out
  have z6 := U6.out.size
  have hown : ∀ x, (Value.slice al Z.length Z.length).ownBlock = some x → w1.heap.size ≤ x := by
    intro x hx
    rcases Hal.out with ⟨e1, _⟩ | ⟨g, e1, hg, _⟩
    · rw [e1] at hx; cases hx
    · rw [e1] at hx; cases hx; exact hg
  have hLw := h1.1.lt
  have hLX : ∀ x, XL r (.slice (some ⟨G, 0, none⟩) M M) x → x < w1.heap.size ∧ ¬ X x := by
    intro x hx
    rcases hx with rfl | hx
    · exact ⟨by omega, h3 x (.inl rfl)⟩
    · cases hx; exact ⟨hG1, hXG⟩
  refine ⟨rfl, tot + Z.length, nK', by omega, hnK', ⟨.slice (some ⟨G, 0, none⟩) M M, _, (L4.out.but U6.out ?_).but U7.out ?_, K7.out, ?_, ?_, ?_⟩, (U4.out.comp U6.out ?_).comp U7.out ?_⟩
  · rintro x hx (q | q)
    · exact (hLX x hx).2 q
    · have := hown x q
      have := (hLX x hx).1
      omega
  · rintro x hx ⟨q | q | q, _⟩
    · exact (hLX x hx).2 q
    · have := hown x q
      have := (hLX x hx).1
      omega
    · have := (hLX x hx).1
      omega
  · rintro x hx ⟨q | q | q, _⟩
    · exact (hLX x hx).2 q
    · have := hown x q
      have := (hLX x hx).1
      omega
    · have := (hLX x hx).1
      omega
  · rintro x ⟨q | q | q, hlt⟩
    · exact ⟨.inl (h4 x q).1, (h4 x q).2.1, Nat.lt_of_lt_of_le hlt U7.out.size⟩
    · have := hown x q
      exact ⟨.inr (by omega), by omega, Nat.lt_of_lt_of_le hlt U7.out.size⟩
    · exact ⟨.inr (by omega), by omega, Nat.lt_of_lt_of_le hlt U7.out.size⟩
  · rintro x (rfl | hx)
    · exact ⟨.inl (h5 x (.inl rfl)).1, (h5 x (.inl rfl)).2⟩
    · have e : x = G := by cases hx; rfl
      rcases HG.out with hg | hg
      · rw [e]
        exact ⟨.inl (h5 G (.inr hg)).1, (h5 G (.inr hg)).2⟩
      · exact ⟨.inr (by omega), by omega⟩
  · rintro x hx (q | q)
    · exact (h4 x q).1
    · have := hown x q
      omega
  · rintro x hx ⟨q | q | q, _⟩
    · exact (h4 x q).1
    · have := hown x q
      omega
    · omega

end Go.Proofs.Yteaebdonnicbkaa
