/-
  Order, in plain words; mayBe.
-/
import Derived.Test.YtajnokkmpjdliaaAr2
namespace Go.Proofs.Ytajnokkmpjdliaa
open Go.RowKit

/-! ### edges of any numbers -/
def zg (Z : List (Int × Int)) (i : Nat) : Int × Int := Z.getD i (0, 0)
theorem zg_get (Z : List (Int × Int)) {i : Nat} (h : i < Z.length) : zg Z i = Z[i] := by simp [zg, h]
def RdZ (w : World) (a : Option Addr) (m : Nat) (Z : List (Int × Int)) : Prop := Z.length = m ∧ ∀ i, i < m → ∃ g off, a = some ⟨g, off, none⟩ ∧ w.cell? ⟨g, off + i * 2, none⟩ = some (.int .i64 (zg Z i).1) ∧ w.cell? ⟨g, off + i * 2 + 1, none⟩ = some (.int .i64 (zg Z i).2)
theorem RdZ.next {w w' : World} {a : Option Addr} {m : Nat} {Z : List (Int × Int)} (h : RdZ w a m Z) (hb : Below w.heap.size w w') : RdZ w' a m Z := by
  refine ⟨h.1, fun i hi => ?_⟩
  obtain ⟨g, off, ha, h1, h2⟩ := h.2 i hi
  have hg := World.block_lt_of_cell? w ⟨g, off + i * 2, none⟩ h1
  exact ⟨g, off, ha, (hb.cell hg).trans h1, (hb.cell (p := ⟨g, off + i * 2 + 1, none⟩) hg).trans h2⟩
def edOk (s : Int) (e : Int × Int) : Bool := decide (0 ≤ e.1) && decide (e.1 < s) && (decide (0 ≤ e.2) && decide (e.2 < s))
def okZ (s : Int) (Z : List (Int × Int)) : Bool := decide (0 ≤ s) && decide (s ≤ 524288) && Z.all (edOk s)
def toN (Z : List (Int × Int)) : List (Nat × Nat) := Z.map fun e => (e.1.toNat, e.2.toNat)
theorem toN_len (Z : List (Int × Int)) : (toN Z).length = Z.length := by simp [toN]
theorem eg_toN (Z : List (Int × Int)) {i : Nat} (h : i < Z.length) : eg (toN Z) i = ((zg Z i).1.toNat, (zg Z i).2.toNat) := by
  rw [eg_get _ (by rw [toN_len]; exact h), zg_get Z h]
  simp [toN]
theorem okZ_iff {s : Int} {Z : List (Int × Int)} : okZ s Z = true ↔ 0 ≤ s ∧ s ≤ 524288 ∧ ∀ e ∈ Z, 0 ≤ e.1 ∧ e.1 < s ∧ 0 ≤ e.2 ∧ e.2 < s := by
  simp [okZ, edOk, and_assoc]
theorem RdZ.toE {w : World} {a : Option Addr} {m : Nat} {Z : List (Int × Int)} {s : Int} (h : RdZ w a m Z) (hok : okZ s Z = true) : RdE w a m (toN Z) := by
  refine ⟨by rw [toN_len]; exact h.1, fun i hi => ?_⟩
  obtain ⟨g, off, ha, h1, h2⟩ := h.2 i hi
  have hm : zg Z i ∈ Z := by rw [zg_get Z (by rw [h.1]; exact hi)]; exact List.getElem_mem _
  obtain ⟨q1, q2, q3, q4⟩ := (okZ_iff.1 hok).2.2 _ hm
  rw [eg_toN Z (by rw [h.1]; exact hi)]
  refine ⟨g, off, ha, ?_, ?_⟩
  · rw [h1]; simp only; rw [Int.toNat_of_nonneg q1]
  · rw [h2]; simp only; rw [Int.toNat_of_nonneg q3]
theorem okZ.ed {s : Int} {Z : List (Int × Int)} (hok : okZ s Z = true) : EdOk s.toNat (toN Z) := by
  intro e he
  obtain ⟨z, hz, rfl⟩ := List.mem_map.1 he
  obtain ⟨q1, q2, q3, q4⟩ := (okZ_iff.1 hok).2.2 _ hz
  simp only
  omega

set_option maxRecDepth 100000 in
set_option maxHeartbeats 1000000 in
theorem mayBe_any (m c : Nat) (a : Option Addr) (s : Int) (Z : List (Int × Int)) (hm : m ≤ 1048576) (w : World) (hR : RdZ w a m Z) :
    Calls Try.prog 19 #[.int .i64 s, .slice a m c] w fun e w' => e = .returned (.bool (okZ s Z)) ∧ Below w.heap.size w w' := by
  obtain ⟨PO, hPO⟩ : ∃ PO : Ending → World → Prop, PO = fun e w' => e = .returned (.bool (okZ s Z)) ∧ Below w.heap.size w w' := ⟨_, rfl⟩
  rw [← hPO]
  have HPO := hid hPO
  have HR := hid hR
  have HM := hid hm
  obtain ⟨B, hB⟩ : ∃ B, B = w.heap.size := ⟨_, rfl⟩
  have HB := hid hB
  by_cases p : 0 ≤ s ∧ s ≤ 524288
  · obtain ⟨p1, p2⟩ := p
    have q1 : ¬ s < 0 := by omega
    have q2 : ¬ 524288 < s := by omega
    clear hPO hB hR hm
    go_enter Try.func19, Try.ntmps19
    go_wp2_with fail
    go_loopw [15] (fun iv wr => ∃ i : Nat, iv = .int .i64 (i : Int) ∧ i ≤ m ∧ Below B w wr ∧ (∀ j, j < i → edOk s (zg Z j) = true)) (fun iv _ => m - (intOf iv).toNat)
    case atStart => exact ⟨0, rfl, by omega, Below.refl _ _, fun j hj => by omega⟩
    case round =>
      obtain ⟨i, rfl, hi, hb, hok⟩ := hrel
      by_cases q : i = m
      · have HF : Hid (PO (.returned (.bool true)) wr) := by
          unfold Hid
          rw [HPO.out, ← HB.out]
          refine ⟨?_, hb⟩
          rw [(okZ_iff (s := s) (Z := Z)).2 ⟨p1, p2, fun e he => ?_⟩]
          obtain ⟨j, hj, rfl⟩ := List.getElem_of_mem he
          have := hok j (by rw [q, ← HR.out.1]; exact hj)
          rw [zg_get Z hj] at this
          simpa [edOk, and_assoc] using this
        have qq : (m : Int) ≤ (i : Int) := by omega
        clear hi hb hok q
        go_wp2_with fail
        exact HF.out
      · have him : i < m := by omega
        have hm1 := HM.out
        have qi : (i : Int) < (m : Int) := by omega
        obtain ⟨g, off, ha, c1, c2⟩ := (HR.out.next (w' := wr) (by rw [← HB.out]; exact hb)).2 i him
        obtain ⟨x, hx⟩ : ∃ x, x = (zg Z i).1 := ⟨_, rfl⟩
        obtain ⟨y, hy⟩ : ∃ y, y = (zg Z i).2 := ⟨_, rfl⟩
        rw [← hx] at c1
        rw [← hy] at c2
        have hbu : ∀ o : Obj, Below B w (wr.alloc o) := fun o => hb.trans ((below1 _ _).mono (by have := hb.size; have := HB.out; omega))
        have hmem : zg Z i ∈ Z := by rw [zg_get Z (by rw [HR.out.1]; exact him)]; exact List.getElem_mem _
        by_cases r : 0 ≤ x ∧ x < s ∧ 0 ≤ y ∧ y < s
        · obtain ⟨r1, r2, r3, r4⟩ := r
          have m1 : min x y = if x ≤ y then x else y := by omega
          have hz1 : ¬ min x y < 0 := by omega
          have hz2 : max x y < s := by omega
          have HN : Hid (∀ o : Obj, i + 1 ≤ m ∧ Below B w (wr.alloc o) ∧ (∀ j, j < i + 1 → edOk s (zg Z j) = true)) := fun o => ⟨by omega, hbu o, fun j hj => by
            by_cases e : j = i
            · subst e
              simp [edOk, ← hx, ← hy, r1, r2, r3, r4]
            · exact hok j (by omega)⟩
          clear hi hb hok hbu hmem m1
          subst ha
          go_wp2_with fail
          all_goals
            refine ⟨⟨i + 1, by rw [Int.natCast_add]; rfl, HN.out _⟩, ?_⟩
            simp only [intOf]
            omega
        · have HF : Hid (∀ wq, Below wr.heap.size wr wq → PO (.returned (.bool false)) wq) := fun wq hq => by
            rw [HPO.out, ← HB.out]
            refine ⟨?_, hb.trans (hq.mono (by have := hb.size; have := HB.out; omega))⟩
            have : okZ s Z = false := by
              cases h9 : okZ s Z with
              | false => rfl
              | true =>
                have := (okZ_iff.1 h9).2.2 _ hmem
                rw [← hx, ← hy] at this
                exact absurd this r
            rw [this]
          have HR9 := hid r
          have HX9 := hid hx
          have HY9 := hid hy
          clear hi hb hok hbu hmem
          subst ha
          clear r
          go_wp2_with fail
          all_goals first | exact HF.out _ (below1 _ _) | (exfalso; have h7 := HR9.out; have h8 := HX9.out; have h9 := HY9.out; omega)
  · have hno : okZ s Z = false := by
      cases h9 : okZ s Z with
      | false => rfl
      | true =>
        have := okZ_iff.1 h9
        exact absurd ⟨this.1, this.2.1⟩ p
    have HF : Hid (PO (.returned (.bool false)) w) := by
      unfold Hid
      rw [HPO.out, hno]
      exact ⟨rfl, Below.refl _ _⟩
    clear hPO hB hR hm hno
    by_cases q : s < 0
    · clear p
      go_enter Try.func19, Try.ntmps19
      go_wp2_with fail
      exact HF.out
    · have q2 : 524288 < s := by omega
      have q3 : 0 ≤ s := by omega
      clear p q
      go_enter Try.func19, Try.ntmps19
      go_wp2_with fail
      exact HF.out

/-! ### Order -/
def orX (s : Int) (Z : List (Int × Int)) : List Nat × Int :=
  if okZ s Z then (if (ordP s.toNat (toN Z)).length < s.toNat then ([], 241) else (ordP s.toNat (toN Z), 0)) else ([], 240)
def OrQ (s : Int) (Z : List (Int × Int)) (w : World) (e : Ending) (w' : World) : Prop := ∃ ov, e = .returned (.tuple #[ov, .int .i64 (orX s Z).2]) ∧ w'.ownsRow w.heap.size 3 1 ov (orX s Z).1.length ((orX s Z).1.map fun (k : Nat) => Value.int .i64 (k : Int)) ∧ Below w.heap.size w w'
def OdQ (n : Nat) (E : List (Nat × Nat)) (w : World) (e : Ending) (w' : World) : Prop := ∃ ov, e = .returned (.tuple #[ov, .int .i64 (if (ordP n E).length < n then 241 else 0)]) ∧ (w'.ownsRow w.heap.size 3 1 ov (if (ordP n E).length < n then [] else ordP n E).length ((if (ordP n E).length < n then [] else ordP n E).map fun (k : Nat) => Value.int .i64 (k : Int))) ∧ Below w.heap.size w w'

set_option maxRecDepth 100000 in
set_option maxHeartbeats 1000000 in
theorem order_any (n m c Gb fb nb : Nat) (a : Option Addr) (E : List (Nat × Nat)) (fs nx : List Int) (hn : n ≤ 1048576) (hm : m ≤ 1048576) (w : World) (hG : Gr w Gb fb nb n m a c fs nx) (hS : GS n m E m fs nx) (hR : RdE w a m E) (hE : EdOk n E) :
    Calls Try.prog 22 #[.pointer (some ⟨Gb, 0, none⟩)] w (OdQ n E w) := by
  obtain ⟨PO, hPO⟩ : ∃ PO, PO = OdQ n E w := ⟨_, rfl⟩
  rw [← hPO]
  obtain ⟨L, hL⟩ : ∃ L, L = (ordP n E).length := ⟨_, rfl⟩
  have HA : Hid (Calls Try.prog 29 #[.pointer (some ⟨Gb, 0, none⟩)] w fun e w' => ∃ ao co wb, e = .returned (.tuple #[.slice ao L co, .slice (some ⟨wb, 0, none⟩) n n]) ∧ w'.cell? ⟨Gb, 0, none⟩ = some (.int .i64 (n : Int)) ∧ (∀ ov u, (if L < n then (ov = .slice none 0 0 ∧ u = 241) else (ov = .slice ao L co ∧ u = 0)) → PO (.returned (.tuple #[ov, .int .i64 u])) w')) := by
    refine (arranged_any n m c Gb fb nb a E fs nx hn hm w hG hS hR hE).mono ?_
    rintro e w' ⟨ov, wb, ws, rfl, h1, h2, h3, h4, h5, h6, h7⟩
    have hf : ∃ ao co, ov = .slice ao L co := by
      rcases own_form h1 with ⟨e, hl⟩ | ⟨g, c9, e, _⟩
      · exact ⟨none, 0, by rw [e, hL, hl]⟩
      · exact ⟨_, c9, by rw [e, hL]⟩
    obtain ⟨ao, co, rfl⟩ := hf
    refine ⟨ao, co, wb, rfl, (hG.next h7).cells.1, fun ov u hu => ?_⟩
    rw [hPO]
    by_cases p : L < n
    · rw [if_pos p] at hu
      obtain ⟨rfl, rfl⟩ := hu
      unfold OdQ
      rw [← hL, if_pos p, if_pos p]
      exact ⟨_, rfl, ⟨rfl, .inl ⟨rfl, rfl⟩⟩, h7⟩
    · rw [if_neg p] at hu
      obtain ⟨rfl, rfl⟩ := hu
      unfold OdQ
      rw [← hL, if_neg p, if_neg p]
      exact ⟨_, rfl, by rw [← hL] at h1 ⊢; exact h1, h7⟩
  clear hG hS hR hE hPO hL
  go_enter Try.func22, Try.ntmps22
  go_wp2_with fail
  go_at_call 29
  refine Calls.mono HA.out ?_
  rintro e w' ⟨ao, co, wb, rfl, h1, h2⟩
  have H2 := hid h2
  clear h2 HA
  by_cases p : L < n
  · have HF := hid (H2.out (.slice none 0 0) 241 (by rw [if_pos p]; exact ⟨rfl, rfl⟩))
    have q : (L : Int) < (n : Int) := by omega
    clear H2
    go_wp2_with fail
    exact HF.out
  · have HF := hid (H2.out (.slice ao L co) 0 (by rw [if_neg p]; exact ⟨rfl, rfl⟩))
    have q : (n : Int) ≤ (L : Int) := by omega
    clear H2
    go_wp2_with fail
    exact HF.out
set_option maxRecDepth 100000 in
set_option maxHeartbeats 1000000 in
theorem Order_any (m c : Nat) (a : Option Addr) (s : Int) (Z : List (Int × Int)) (hm : m ≤ 1048576) (w : World) (hR : RdZ w a m Z) :
    Calls Try.prog 14 #[.int .i64 s, .slice a m c] w (OrQ s Z w) := by
  obtain ⟨PO, hPO⟩ : ∃ PO, PO = OrQ s Z w := ⟨_, rfl⟩
  rw [← hPO]
  by_cases p : okZ s Z = true
  · have HB : Hid (Calls Try.prog 19 #[.int .i64 s, .slice a m c] w fun e w1 => e = .returned (.bool true) ∧ ∃ n : Nat, s = (n : Int) ∧ Calls Try.prog 20 #[.int .i64 (n : Int), .slice a m c] w1 fun e w2 => ∃ Gb, e = .returned (.pointer (some ⟨Gb, 0, none⟩)) ∧ Calls Try.prog 22 #[.pointer (some ⟨Gb, 0, none⟩)] w2 fun e w3 => ∃ ov u, e = .returned (.tuple #[ov, .int .i64 u]) ∧ PO (.returned (.tuple #[ov, .int .i64 u])) w3) := by
      refine (mayBe_any m c a s Z hm w hR).mono ?_
      rintro e w1 ⟨rfl, hb1⟩
      rw [p]
      have hok := okZ_iff.1 p
      refine ⟨rfl, s.toNat, (Int.toNat_of_nonneg hok.1).symm, ?_⟩
      have hE := okZ.ed p
      refine (graphOf_any s.toNat m c a (toN Z) (by omega) hm w1 ((hR.next hb1).toE p) hE).mono ?_
      rintro e w2 ⟨Gb, fb, nb, fs, nx, rfl, h1, h2, h3, h4⟩
      refine ⟨Gb, rfl, ?_⟩
      have hR2 := ((hR.next hb1).toE p).next h4
      refine (order_any s.toNat m c Gb fb nb a (toN Z) fs nx (by omega) hm w2 h1 h2 hR2 hE).mono ?_
      rintro e w3 ⟨ov, rfl, q1, q2⟩
      refine ⟨ov, _, rfl, ?_⟩
      rw [hPO]
      unfold OrQ orX
      rw [if_pos p]
      have hs1 := hb1.size
      have hs2 := h4.size
      have hb : Below w.heap.size w w3 := (hb1.trans (h4.mono hs1)).trans (q2.mono (by omega))
      by_cases r : (ordP s.toNat (toN Z)).length < s.toNat
      · have e : (if (ordP s.toNat (toN Z)).length < s.toNat then (([] : List Nat), (241 : Int)) else (ordP s.toNat (toN Z), 0)) = ([], 241) := if_pos r
        rw [e, if_pos r]
        rw [if_pos r] at q1
        exact ⟨ov, rfl, own_mono q1 (by omega), hb⟩
      · have e : (if (ordP s.toNat (toN Z)).length < s.toNat then (([] : List Nat), (241 : Int)) else (ordP s.toNat (toN Z), 0)) = (ordP s.toNat (toN Z), 0) := if_neg r
        rw [e, if_neg r]
        rw [if_neg r] at q1
        exact ⟨ov, rfl, own_mono q1 (by omega), hb⟩
    clear hR hPO p
    go_enter Try.func14, Try.ntmps14
    go_wp2_with fail
    go_at_call 19
    refine Calls.mono HB.out ?_
    rintro e w1 ⟨rfl, n, rfl, h1⟩
    have H1 := hid h1
    clear h1 HB
    go_wp2_with fail
    go_at_call 20
    refine Calls.mono H1.out ?_
    rintro e w2 ⟨Gb, rfl, h2⟩
    have H2 := hid h2
    clear h2 H1
    go_wp2_with fail
    go_at_call 22
    refine Calls.mono H2.out ?_
    rintro e w3 ⟨ov, u, rfl, h3⟩
    have H3 := hid h3
    clear h3 H2
    go_wp2_with fail
    exact H3.out
  · have p2 : okZ s Z = false := by simpa using p
    have HB : Hid (Calls Try.prog 19 #[.int .i64 s, .slice a m c] w fun e w1 => e = .returned (.bool false) ∧ PO (.returned (.tuple #[.slice none 0 0, .int .i64 240])) w1) := by
      refine (mayBe_any m c a s Z hm w hR).mono ?_
      rintro e w1 ⟨rfl, hb1⟩
      rw [p2]
      refine ⟨rfl, ?_⟩
      rw [hPO]
      unfold OrQ orX
      rw [if_neg p]
      exact ⟨_, rfl, ⟨rfl, .inl ⟨rfl, rfl⟩⟩, hb1⟩
    clear hR hPO p p2
    go_enter Try.func14, Try.ntmps14
    go_wp2_with fail
    go_at_call 19
    refine Calls.mono HB.out ?_
    rintro e w1 ⟨rfl, h1⟩
    have H1 := hid h1
    clear h1 HB
    go_wp2_with fail
    exact H1.out
end Go.Proofs.Ytajnokkmpjdliaa
