/-
  Circle.
-/
import Derived.Test.YtajnokkmpjdliaaCi2
namespace Go.Proofs.Ytajnokkmpjdliaa
open Go.RowKit

/-- what Circle may answer -/
structure CirR (s : Int) (Z : List (Int × Int)) (l : List Nat) (f : Int) : Prop where
  no : okZ s Z = false → l = [] ∧ f = 240
  ok : okZ s Z = true → f = 0
  none : okZ s Z = true → ¬ (ordP s.toNat (toN Z)).length < s.toNat → l = []
  ring : okZ s Z = true → (ordP s.toNat (toN Z)).length < s.toNat → Ring s.toNat (toN Z) l
theorem Ring.le {n : Nat} {E : List (Nat × Nat)} {l : List Nat} (h : Ring n E l) : l.length ≤ n := nodup_len h.nd h.lt
theorem CirR.len {s : Int} {Z : List (Int × Int)} {l : List Nat} {f : Int} (h : CirR s Z l f) : l.length ≤ 524288 := by
  by_cases p : okZ s Z = true
  · by_cases q : (ordP s.toNat (toN Z)).length < s.toNat
    · have := (h.ring p q).le
      have := (okZ_iff.1 p).2.1
      omega
    · rw [h.none p q]; simp
  · rw [(h.no (by simpa using p)).1]; simp
def CirQ (s : Int) (Z : List (Int × Int)) (w : World) (e : Ending) (w' : World) : Prop := ∃ ov l f, e = .returned (.tuple #[ov, .int .i64 f]) ∧ w'.ownsRow w.heap.size 3 1 ov l.length (nv l) ∧ Below w.heap.size w w' ∧ CirR s Z l f

set_option maxRecDepth 100000 in
set_option maxHeartbeats 1000000 in
theorem Circle_any (m c : Nat) (a : Option Addr) (s : Int) (Z : List (Int × Int)) (hm : m ≤ 1048576) (w : World) (hR : RdZ w a m Z) :
    Calls Try.prog 6 #[.int .i64 s, .slice a m c] w (CirQ s Z w) := by
  obtain ⟨PO, hPO⟩ : ∃ PO, PO = CirQ s Z w := ⟨_, rfl⟩
  rw [← hPO]
  by_cases p : okZ s Z = true
  · have HB : Hid (Calls Try.prog 19 #[.int .i64 s, .slice a m c] w fun e w1 => e = .returned (.bool true) ∧ ∃ n : Nat, s = (n : Int) ∧ Calls Try.prog 20 #[.int .i64 (n : Int), .slice a m c] w1 fun e w2 => ∃ Gb, e = .returned (.pointer (some ⟨Gb, 0, none⟩)) ∧ Calls Try.prog 21 #[.pointer (some ⟨Gb, 0, none⟩)] w2 fun e w3 => ∃ ov, e = .returned ov ∧ PO (.returned (.tuple #[ov, .int .i64 0])) w3) := by
      refine (mayBe_any m c a s Z hm w hR).mono ?_
      rintro e w1 ⟨rfl, hb1⟩
      rw [p]
      have hok := okZ_iff.1 p
      refine ⟨rfl, s.toNat, (Int.toNat_of_nonneg hok.1).symm, ?_⟩
      have hE := okZ.ed p
      refine (graphOf_any s.toNat m c a (toN Z) (by omega) hm w1 ((hR.next hb1).toE p) hE).mono ?_
      rintro e w2 ⟨Gb, fb, nb, fs, nx, rfl, h1, h2, h3, h4⟩
      refine ⟨Gb, rfl, ?_⟩
      have hR2 := ((hR.next hb1).toE p).next h4
      refine (circle_any s.toNat m c Gb fb nb a (toN Z) fs nx (by omega) hm w2 h1 h2 hR2 hE).mono ?_
      rintro e w3 ⟨ov, l, rfl, q1, q2, q3, q4⟩
      refine ⟨ov, rfl, ?_⟩
      rw [hPO]
      have hs1 := hb1.size
      have hs2 := h4.size
      have hb : Below w.heap.size w w3 := (hb1.trans (h4.mono hs1)).trans (q2.mono (by omega))
      exact ⟨ov, l, 0, rfl, own_mono q1 (by omega), hb, ⟨(fun e => by rw [p] at e; cases e), fun _ => rfl, fun _ => q3, fun _ => q4⟩⟩
    clear hR hPO p
    go_enter Try.func6, Try.ntmps6
    go_wp2_with fail
    go_at_call 19
    refine Calls.mono HB.out ?_
    rintro e w1 ⟨rfl, n, rfl, h1⟩
    have H1 := hid h1
    clear h1 HB
    go_wp2_with fail
    go_at_call 20
    refine Calls.mono H1.out ?_
    rintro e w2 ⟨Gb, rfl, h2⟩
    have H2 := hid h2
    clear h2 H1
    go_wp2_with fail
    go_at_call 21
    refine Calls.mono H2.out ?_
    rintro e w3 ⟨ov, rfl, h3⟩
    have H3 := hid h3
    clear h3 H2
    go_wp2_with fail
    exact H3.out
  · have p2 : okZ s Z = false := by simpa using p
    have HB : Hid (Calls Try.prog 19 #[.int .i64 s, .slice a m c] w fun e w1 => e = .returned (.bool false) ∧ PO (.returned (.tuple #[.slice none 0 0, .int .i64 240])) w1) := by
      refine (mayBe_any m c a s Z hm w hR).mono ?_
      rintro e w1 ⟨rfl, hb1⟩
      rw [p2]
      refine ⟨rfl, ?_⟩
      rw [hPO]
      exact ⟨_, [], _, rfl, ⟨rfl, .inl ⟨rfl, rfl⟩⟩, hb1, ⟨fun _ => ⟨rfl, rfl⟩, fun e => absurd e p, fun e => absurd e p, fun e => absurd e p⟩⟩
    clear hR hPO p p2
    go_enter Try.func6, Try.ntmps6
    go_wp2_with fail
    go_at_call 19
    refine Calls.mono HB.out ?_
    rintro e w1 ⟨rfl, h1⟩
    have H1 := hid h1
    clear h1 HB
    go_wp2_with fail
    exact H1.out
end Go.Proofs.Ytajnokkmpjdliaa
