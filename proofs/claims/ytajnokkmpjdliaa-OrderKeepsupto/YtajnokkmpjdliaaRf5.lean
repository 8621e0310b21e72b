/-
  The document's bad.
-/
import Derived.Test.YtajnokkmpjdliaaRf4
namespace Go.Proofs.Ytajnokkmpjdliaa
open Go.RowKit

set_option maxRecDepth 100000 in
set_option maxHeartbeats 4000000 in
theorem bad_any (m c : Nat) (a : Option Addr) (s : Int) (Z : List (Int × Int)) (hm : m ≤ 1048576) (w : World) (hR : RdZ w a m Z) :
    Calls Try.prog 24 #[.int .i64 s, .slice a m c] w fun e w' => e = .returned (.bool (!okZ s Z)) ∧ w' = w := by
  obtain ⟨PO, hPO⟩ : ∃ PO : Ending → World → Prop, PO = fun e w' => e = .returned (.bool (!okZ s Z)) ∧ w' = w := ⟨_, rfl⟩
  rw [← hPO]
  have HPO := hid hPO
  have HR := hid hR
  have HM := hid hm
  clear hPO hR hm
  go_enter Try.func24, Try.ntmps24
  go_wp2_with fail
  go_loopw [5] (fun iv wr => ∃ i : Nat, iv = .int .i64 (i : Int) ∧ i ≤ m ∧ (∀ j, j < i → edOk s (zg Z j) = true) ∧ wr = w) (fun iv _ => m - (intOf iv).toNat)
  case atStart => exact ⟨0, rfl, by omega, fun j hj => by omega, rfl⟩
  case round =>
    obtain ⟨i, rfl, hi, hok, hw⟩ := hrel
    subst hw
    by_cases q : i = m
    · have hall : ∀ e ∈ Z, 0 ≤ e.1 ∧ e.1 < s ∧ 0 ≤ e.2 ∧ e.2 < s := fun e he => by
        obtain ⟨j, hj, rfl⟩ := List.getElem_of_mem he
        have := hok j (by rw [q, ← HR.out.1]; exact hj)
        rw [zg_get Z hj] at this
        simpa [edOk, and_assoc] using this
      have qq : (m : Int) ≤ (i : Int) := by omega
      by_cases p : 0 ≤ s ∧ s ≤ 524288
      · have HF : Hid (PO (.returned (.bool false)) wr) := by
          unfold Hid
          rw [HPO.out, (okZ_iff (s := s) (Z := Z)).2 ⟨p.1, p.2, hall⟩]
          exact ⟨rfl, rfl⟩
        obtain ⟨p1, p2⟩ := p
        clear hi hok q hall
        go_wp2_with fail
        have e9 : decide (s < 0) = false := decide_eq_false (by omega)
        have e8 : decide (524288 < s) = false := decide_eq_false (by omega)
        (try rw [e9])
        (try rw [e8])
        exact HF.out
      · have hno : okZ s Z = false := by
          cases h9 : okZ s Z with
          | false => rfl
          | true =>
            have := okZ_iff.1 h9
            exact absurd ⟨this.1, this.2.1⟩ p
        have HF : Hid (PO (.returned (.bool true)) wr) := by
          unfold Hid
          rw [HPO.out, hno]
          exact ⟨rfl, rfl⟩
        by_cases p1 : s < 0
        · clear hi hok q hall p hno
          go_wp2_with fail
          all_goals first | exact HF.out | (exfalso; omega)
        · have p2 : 0 ≤ s := by omega
          have p3 : 524288 < s := by omega
          clear hi hok q hall p hno p1
          go_wp2_with fail
          all_goals first | exact HF.out | (exfalso; omega)
    · have him : i < m := by omega
      have hm1 := HM.out
      have qi : (i : Int) < (m : Int) := by omega
      obtain ⟨g, off, ha, c1, c2⟩ := HR.out.2 i him
      obtain ⟨x, hx⟩ : ∃ x, x = (zg Z i).1 := ⟨_, rfl⟩
      obtain ⟨y, hy⟩ : ∃ y, y = (zg Z i).2 := ⟨_, rfl⟩
      rw [← hx] at c1
      rw [← hy] at c2
      have hmem : zg Z i ∈ Z := by rw [zg_get Z (by rw [HR.out.1]; exact him)]; exact List.getElem_mem _
      by_cases r : 0 ≤ x ∧ x < s ∧ 0 ≤ y ∧ y < s
      · obtain ⟨r1, r2, r3, r4⟩ := r
        have HNx : Hid (i + 1 ≤ m ∧ (∀ j, j < i + 1 → edOk s (zg Z j) = true)) := ⟨by omega, fun j hj => by
          by_cases e : j = i
          · subst e
            simp [edOk, ← hx, ← hy, r1, r2, r3, r4]
          · exact hok j (by omega)⟩
        obtain ⟨ew, ewb⟩ := inc_wr i (by omega)
        have HX9 := hid hx
        have HY9 := hid hy
        clear hi hok hmem hx hy q
        subst ha
        go_wp2_with fail
        all_goals first | exact ⟨⟨i + 1, by rw [Int.natCast_add]; rfl, HNx.out.1, HNx.out.2, trivial⟩, mea_step HNx.out.1⟩ | (exfalso; clear ew ewb; omega)
      · have HF : Hid (PO (.returned (.bool true)) wr) := by
          unfold Hid
          rw [HPO.out]
          have : okZ s Z = false := by
            cases h9 : okZ s Z with
            | false => rfl
            | true =>
              have := (okZ_iff.1 h9).2.2 _ hmem
              rw [← hx, ← hy] at this
              exact absurd this r
          rw [this]
          exact ⟨rfl, rfl⟩
        have HR9 := hid r
        have HX9 := hid hx
        have HY9 := hid hy
        clear hi hok hmem hx hy q r
        subst ha
        by_cases r1 : x < 0
        · go_wp2_with fail
          all_goals first | exact HF.out | (exfalso; omega)
        · have r1' : 0 ≤ x := by omega
          by_cases r2 : s ≤ x
          · clear r1
            go_wp2_with fail
            all_goals first | exact HF.out | (exfalso; omega)
          · have r2' : x < s := by omega
            by_cases r3 : y < 0
            · clear r1 r2
              go_wp2_with fail
              all_goals first | exact HF.out | (exfalso; omega)
            · have r3' : 0 ≤ y := by omega
              have r4 : s ≤ y := by have := HR9.out; omega
              clear r1 r2 r3
              go_wp2_with fail
              all_goals first | exact HF.out | (exfalso; omega)
end Go.Proofs.Ytajnokkmpjdliaa
