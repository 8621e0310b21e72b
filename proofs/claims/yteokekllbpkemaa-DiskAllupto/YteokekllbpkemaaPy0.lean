/-
  Desks beside one another; a script.
-/
import Derived.Test.YteokekllbpkemaaOp2
namespace Go.Proofs.Yteokekllbpkemaa
open Go.RowKit

/-- an act -/
structure ActD where
  wh : Int
  kd : Int
  at_ : Int
  fi : Int
  aR : Option Addr
  nR : Nat
  cR : Nat
  aK : Option Addr
  nK : Nat
  cK : Nat
  zs : List Int
  ks : List Int
def ActD.val (d : ActD) : Value := actV d.wh d.kd d.at_ d.fi (.slice d.aR d.nR d.cR) (.slice d.aK d.nK d.cK)
def ActD.ok (B : Nat) (w : World) (d : ActD) : Prop := d.at_ ≤ 9223372036854775807 ∧ ActIn (fun y => B ≤ y) w d.aR d.aK d.nR d.cR d.nK d.cK d.zs d.ks
theorem but_of_below {B : Nat} {w w' : World} (h : Below B w w') : But (fun y => B ≤ y) w w' := ⟨h.os, h.tape, h.output, h.size, fun k _ hk => h.block k (by omega)⟩
theorem ActD.ok.below {B : Nat} {w w' : World} {d : ActD} (h : d.ok B w) (hb : Below B w w') : d.ok B w' := ⟨h.1, h.2.below (but_of_below hb)⟩
theorem ActIn.mono {X Y : Nat → Prop} {w : World} {aR aK : Option Addr} {nR cR nK cK : Nat} {zs ks : List Int} (h : ActIn X w aR aK nR cR nK cK zs ks) (hx : ∀ y, Y y → X y) : ActIn Y w aR aK nR cR nK cK zs ks :=
  ⟨h.hR, h.hK, h.nilR, h.nilK, h.rd.mono (fun y _ q => hx y q), RiN.mono (X := X) h.ri (fun y _ q => hx y q)⟩
/-- a script -/
structure ScrIn (B : Nat) (w : World) (a : Option Addr) (n : Nat) (L : List ActD) : Prop where
  len : L.length = n
  ok : ∀ d ∈ L, d.ok B w
  cel : n = 0 ∨ ∃ b o, a = some ⟨b, o, none⟩ ∧ b < B ∧ ∀ i d, L[i]? = some d → w.cell? ⟨b, o + i * 6, none⟩ = some (.int .i64 d.wh) ∧ w.cell? ⟨b, o + i * 6 + 1, none⟩ = some (.int .i64 d.kd) ∧ w.cell? ⟨b, o + i * 6 + 2, none⟩ = some (.int .i64 d.at_) ∧ w.cell? ⟨b, o + i * 6 + 3, none⟩ = some (.int .i64 d.fi) ∧
    w.cell? ⟨b, o + i * 6 + 4, none⟩ = some (.slice d.aR d.nR d.cR) ∧ w.cell? ⟨b, o + i * 6 + 5, none⟩ = some (.slice d.aK d.nK d.cK)
theorem ScrIn.below {B : Nat} {w w' : World} {a : Option Addr} {n : Nat} {L : List ActD} (h : ScrIn B w a n L) (hb : Below B w w') : ScrIn B w' a n L := by
  refine ⟨h.len, fun d hd => (h.ok d hd).below hb, h.cel.imp id (fun ⟨b, o, e, l, q⟩ => ⟨b, o, e, l, fun i d hi => ?_⟩)⟩
  obtain ⟨q0, q1, q2, q3, q4, q5⟩ := q i d hi
  exact ⟨(hb.cell (p := ⟨b, _, none⟩) l).trans q0, (hb.cell (p := ⟨b, _, none⟩) l).trans q1, (hb.cell (p := ⟨b, _, none⟩) l).trans q2, (hb.cell (p := ⟨b, _, none⟩) l).trans q3, (hb.cell (p := ⟨b, _, none⟩) l).trans q4, (hb.cell (p := ⟨b, _, none⟩) l).trans q5⟩

/-- desks beside one another -/
def Desks (B : Nat) (w0 w : World) (l : List (Nat × Nat)) (m : Nat) : Prop := B ≤ w.heap.size ∧ Below B w0 w ∧ ∃ κ : Nat → Nat, (∀ y, y < B → κ y = 0) ∧ ∀ q ∈ l, Dsk q.1 κ w q.2 m
/-- their tags are apart -/
def Apart (l : List (Nat × Nat)) : Prop := ∀ q ∈ l, ∀ q' ∈ l, q = q' ∨ q.1 + 4 ≤ q'.1 ∨ q'.1 + 4 ≤ q.1
theorem Desks.more {B : Nat} {w0 w : World} {l : List (Nat × Nat)} {m m' : Nat} (h : Desks B w0 w l m) (hm : m ≤ m') : Desks B w0 w l m' := by
  obtain ⟨h1, h2, κ, h3, h4⟩ := h
  exact ⟨h1, h2, κ, h3, fun q hq => (h4 q hq).more hm⟩
theorem Desks.below {B : Nat} {w0 w w' : World} {l : List (Nat × Nat)} {m : Nat} (h : Desks B w0 w l m) (hb : Below w.heap.size w w') : Desks B w0 w' l m := by
  obtain ⟨h1, h2, κ, h3, h4⟩ := h
  exact ⟨Nat.le_trans h1 hb.size, h2.trans (hb.mono h1), κ, h3, fun q hq => (h4 q hq).keep (Nat.le_refl _) (fun y hy _ => hb.block y hy) (fun _ _ _ => rfl)⟩
theorem Desks.act {B : Nat} {w0 w : World} {l : List (Nat × Nat)} {m : Nat} (h : Desks B w0 w l m) (hl : Apart l) (hm : m ≤ 134217727) {q : Nat × Nat} (hq : q ∈ l) {d : ActD} (hd : d.ok B w) :
    Calls Try.prog 12 #[.pointer (some ⟨q.2, 0, none⟩), d.val] w fun e w' => (∃ lv, e = .returned (.tuple #[.bool true, lv])) ∧ Desks B w0 w' l (m + 1) := by
  obtain ⟨h1, h2, κ, h3, h4⟩ := h
  refine (act_any (h4 q hq) hm d.wh d.kd d.at_ d.fi hd.1 (hd.2.mono (fun y hy => ?_))).mono ?_
  · refine Classical.byContradiction (fun hc => ?_)
    have := h3 y (by omega)
    unfold tg at hy
    omega
  · rintro e w' ⟨lv, κ', rfl, _, hD, hk, hb⟩
    refine ⟨⟨lv, rfl⟩, Nat.le_trans h1 hb.size, h2.trans (hb.below h1 (fun k hk2 hk3 => by have := h3 k hk2; unfold tg at hk3; omega)), κ', fun y hy => (hk y (by omega)).trans (h3 y hy), fun q' hq' => ?_⟩
    rcases hl q hq q' hq' with e | e
    · subst e; exact hD
    · refine (h4 q' hq').keep (by omega) (fun y hy ht => hb.block y hy (fun ht2 => ?_)) (fun y hy _ => hk y hy)
      unfold tg at ht ht2
      omega
theorem Desks.opens {B : Nat} {w0 w : World} {l : List (Nat × Nat)} {m : Nat} (h : Desks B w0 w l m) (t : Nat) (nw : Bool) (bl : Int) {a : Option Addr} {n c : Nat} {zs : List Int} (hI : BegIn B w a n c zs) :
    Calls Try.prog 11 #[beginV nw bl (.slice a n c)] w fun e w' => ∃ x, e = .returned (.tuple #[.pointer (some ⟨x, 0, none⟩), .bool true]) ∧ Desks B w0 w' ((t, x) :: l) m := by
  obtain ⟨h1, h2, κ, h3, h4⟩ := h
  refine (open_any t κ w nw bl hI h1).mono ?_
  rintro e w' ⟨x, κ', rfl, hD, hk, hb⟩
  refine ⟨x, rfl, Nat.le_trans h1 hb.size, h2.trans (hb.mono h1), κ', fun y hy => (hk y (by omega)).trans (h3 y hy), fun q hq => ?_⟩
  rcases List.mem_cons.1 hq with rfl | hq
  · exact hD.more (by omega)
  · exact (h4 q hq).keep (Nat.le_refl _) (fun y hy _ => hb.block y hy) (fun y hy _ => hk y hy)

end Go.Proofs.Yteokekllbpkemaa
